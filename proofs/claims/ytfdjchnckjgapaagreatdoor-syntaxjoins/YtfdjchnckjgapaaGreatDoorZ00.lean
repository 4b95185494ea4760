/-
  S1Plain S1Size S1Deco S1Point S1Runs
-/
import Derived.WalkKit
import Derived.Test.YtfdjchnckjgapaaGreatDoorRows
import Derived.WalkSpells
import Derived.OwnWalk
import Derived.Outline
namespace Go.Proofs.YtfdjchnckjgapaaGreatDoor.S1
open Go.RowKit
set_option linter.unusedVariables false
def szR (r:Int):Int:=if r<0 then 0 else if 1114111<r then 0 else if 55296<=r/\r<=57343 then 0 else if r<128 then 1 else if r<2048 then 2 else if r<65536 then 3 else 4
def encR (r:Int):List Int :=
 if r<128 then [r] else if r<2048 then [192+r / 64,128+r % 64] else if r<65536 then [224+r / 4096,128+r / 64 % 64,128+r % 64]
 else [240+r / 262144,128+r / 4096 % 64,128+r / 64 % 64,128+r % 64]
def isR (r:Int):Bool:=decide (0<=r/\r<=1114111/\(r<55296\/57343<r))
theorem encR_byte {r:Int} (h:isR r=true):∀c∈encR r,0<=c/\c<=255:=by
 simp only [isR,decide_eq_true_eq] at h;unfold encR;intro c hc
 repeat' split at hc
 all_goals simp at hc;omega
theorem size_any (r:Int) (w:World):Calls Tryz.prog 140 #[.int .i64 r] w λe w'=>e = .returned (.int .i64 (szR r))/\w'=w:=by
 by_cases h0:r<0
 · go_enter Tryz.func140,Tryz.ntmps140;go_wp2;go_ret;exact ⟨by simp [szR,h0],rfl⟩
 by_cases h1:1114111<r
 · go_enter Tryz.func140,Tryz.ntmps140;go_wp2;go_ret;exact ⟨by simp [szR,h1],rfl⟩
 by_cases h2:55296<=r/\r<=57343
 · obtain ⟨h2,h3⟩:=h2;go_enter Tryz.func140,Tryz.ntmps140;go_wp2;go_ret;exact ⟨by simp [szR,h2,h3],rfl⟩
 have e:szR r=if r<128 then 1 else if r<2048 then 2 else if r<65536 then 3 else 4:=by
  unfold szR;rw [if_neg h0,if_neg h1,if_neg h2]
 rw [e];clear e;rcases (show r<55296\/57343<r by omega) with h3 | h3
 all_goals
  clear h2;go_enter Tryz.func140,Tryz.ntmps140;go_wp2
  all_goals
   go_ret;refine ⟨?_,rfl⟩
   repeat' split
   all_goals first | rfl | omega
theorem isRune_any (r:Int) (w:World):Calls Tryz.prog 148 #[.int .i64 r] w λe w'=>e = .returned (.bool (isR r))/\w'=w:=by
 have hd:isR r=decide (0<=r/\r<=1114111/\(r<55296\/57343<r)):=rfl;by_cases h0:0<=r
 · by_cases h1:r<=1114111
   · by_cases h2:r<55296
     · have e:isR r=true:=by rw [hd];simp;omega
       rw [e];clear hd e;go_enter Tryz.func148,Tryz.ntmps148;go_wp2
       all_goals
        go_ret;exact ⟨rfl,rfl⟩
     · by_cases h3:57343<r
       · have e:isR r=true:=by rw [hd];simp;omega
         rw [e];clear hd e;go_enter Tryz.func148,Tryz.ntmps148;go_wp2
         all_goals
          go_ret;exact ⟨rfl,rfl⟩
       · have e:isR r=false:=by rw [hd];simp;omega
         rw [e];clear hd e;go_enter Tryz.func148,Tryz.ntmps148;go_wp2
         all_goals
          go_ret;exact ⟨rfl,rfl⟩
   · have e:isR r=false:=by rw [hd];simp;omega
     rw [e];clear hd e;go_enter Tryz.func148,Tryz.ntmps148;go_wp2
     all_goals
      go_ret;exact ⟨rfl,rfl⟩
 · have e:isR r=false:=by rw [hd];simp;omega
   rw [e];clear hd e;go_enter Tryz.func148,Tryz.ntmps148;go_wp2
   all_goals
    go_ret;exact ⟨rfl,rfl⟩
def hdB (c:Int):Int:=if c<128 then c else if c<192 then 0 else if c<224 then c-192 else if c<240 then c-224 else if c<248 then c-240 else 0
def hdW (c:Int):Nat:=if c<128 then 1 else if c<192 then 0 else if c<224 then 2 else if c<240 then 3 else if c<248 then 4 else 0
def pts (wd:Nat):List Int->Int->Nat->Int
 | [],r,_=>r
 | c::t,r,i=>if i<wd/\128<=c/\c<192 then pts wd t (r*64+c % 64) (i+1) else r
def ptR:List Int->Int×Nat
 | []=>(0,0)
 | c::t=>if szR (pts (hdW c) t (hdB c) 1)=(hdW c:Int) then (pts (hdW c) t (hdB c) 1,hdW c) else (0,0)
structure Un where
 r:Int
 w:Nat
 bad:Bool
def unP (l:List Int):Un:=if 0<(ptR l).2 then ⟨(ptR l).1,(ptR l).2,false⟩ else ⟨65533,1,true⟩
def candR:List Int->Int
 | c::t=>if c<128 then c else if 192<=c/\c<224/\1<=t.length then (c-192)*64+t.getD 0 0 % 64
  else if 224<=c/\c<240/\2<=t.length then (c-224)*4096+t.getD 0 0 % 64*64+t.getD 1 0 % 64
  else if 240<=c/\c<248/\3<=t.length then (c-240)*262144+t.getD 0 0 % 64*4096+t.getD 1 0 % 64*64+t.getD 2 0 % 64 else -1
 | []=>-1
def candN:List Int->Nat
 | c::t=>if c<128 then 1 else if 192<=c/\c<224/\1<=t.length then 2 else if 224<=c/\c<240/\2<=t.length then 3 else if 240<=c/\c<248/\3<=t.length then 4 else 1
 | []=>1
def unD (l:List Int):Un:=if isR (candR l)=true/\encR (candR l)=l.take (candN l) then ⟨candR l,candN l,false⟩ else ⟨65533,1,true⟩
def Byt (l:List Int):Prop:=∀c∈l,0<=c/\c<=255
theorem isR_iff (r:Int):isR r=true↔0<=r/\r<=1114111/\(r<55296\/57343<r):=by simp [isR]
theorem szR_one {r:Int} (h:0<=r):szR r=1↔r<128:=by
 unfold szR
 repeat' split
 all_goals omega
theorem szR_two {r:Int} (h:0<=r):szR r=2↔128<=r/\r<2048:=by
 unfold szR
 repeat' split
 all_goals omega
theorem szR_three {r:Int} (h:0<=r):szR r=3↔2048<=r/\r<65536/\(r<55296\/57343<r):=by
 unfold szR
 repeat' split
 all_goals omega
theorem szR_four {r:Int} (h:0<=r):szR r=4↔65536<=r/\r<=1114111:=by
 unfold szR
 repeat' split
 all_goals omega
theorem unP_eq (c:Int) (t:List Int) (h:Byt (c::t)):unP (c::t)=unD (c::t):=by
 have hc:=h c (by simp);unfold unP unD;by_cases h1:c<128
 · have e:ptR (c::t)=(c,1):=by
    have hb:hdB c=c:=by simp [hdB,h1]
    have hw:hdW c=1:=by simp [hdW,h1]
    have hp:pts 1 t c 1=c:=by cases t<;>simp [pts]
    simp only [ptR,hb,hw,hp];rw [if_pos (show szR c=((1:Nat):Int) from (szR_one hc.1).2 h1)]
   have er:candR (c::t)=c:=by simp [candR,h1]
   have en:candN (c::t)=1:=by simp [candN,h1]
   rw [e,er,en,if_pos (Nat.succ_pos _),if_pos ⟨(isR_iff _).2 (by omega),by simp [encR,h1]⟩]
 by_cases h2:c<192
 · have hb:hdB c=0:=by simp [hdB,h1,h2]
   have hw:hdW c=0:=by simp [hdW,h1,h2]
   have hp:pts 0 t 0 1=0:=by cases t<;>simp [pts]
   have e:ptR (c::t)=(0,0):=by
    simp only [ptR,hb,hw,hp]
    split<;>rfl
   have er:candR (c::t)=-1:=by
    simp only [candR];rw [if_neg h1,if_neg (by omega),if_neg (by omega),if_neg (by omega)]
   rw [e,er,if_neg (by decide),if_neg (by simp [isR])]
 by_cases h3:c<224
 · have hb:hdB c=c-192:=by simp [hdB,h1,h2,h3]
   have hw:hdW c=2:=by simp [hdW,h1,h2,h3]
   match t,h with
   | [],_ =>
    have e:ptR [c]=(0,0):=by
     simp only [ptR,hb,hw,pts];rw [if_neg];rw [show ((2:Nat):Int)=2 from rfl,szR_two (by omega)];omega
    have er:candR [c]=-1:=by
     simp only [candR,List.length_nil];rw [if_neg h1,if_neg (by omega),if_neg (by omega),if_neg (by omega)]
    rw [e,er,if_neg (by decide),if_neg (by simp [isR])]
   | d::t,h =>
    have hd:=h d (by simp);have er:candR (c::d::t)=(c-192)*64+d % 64:=by
     simp only [candR,List.length_cons,List.getD_cons_zero];rw [if_neg h1,if_pos (by omega)]
    have en:candN (c::d::t)=2:=by
     simp only [candN,List.length_cons];rw [if_neg h1,if_pos (by omega)]
    by_cases hd1:128<=d/\d<192
    · have hp:pts 2 (d::t) (c-192) 1=(c-192)*64+d % 64:=by
       simp only [pts];rw [if_pos (by omega)];cases t<;>simp [pts]
      by_cases hz:128<=(c-192)*64+d % 64
      · have e:ptR (c::d::t)=((c-192)*64+d % 64,2):=by
         simp only [ptR,hb,hw,hp];rw [if_pos];rw [show ((2:Nat):Int)=2 from rfl,szR_two (by omega)];omega
        have hE:encR ((c-192)*64+d % 64)=(c::d::t).take 2:=by
         simp only [encR,List.take_succ_cons,List.take_zero];rw [if_neg (by omega),if_pos (by omega)]
         congr 1
         · omega
         · congr 1;omega
        rw [e,er,en,if_pos (Nat.succ_pos _),if_pos ⟨(isR_iff _).2 (by omega),hE⟩]
      · have e:ptR (c::d::t)=(0,0):=by
         simp only [ptR,hb,hw,hp];rw [if_neg];rw [show ((2:Nat):Int)=2 from rfl,szR_two (by omega)];omega
        rw [e,er,en,if_neg (by decide),if_neg];rintro ⟨_,h⟩;simp only [encR,List.take_succ_cons,List.take_zero] at h;rw [if_pos (by omega)] at h;simp at h
    · have hp:pts 2 (d::t) (c-192) 1=c-192:=by
       simp only [pts];rw [if_neg (by omega)]
      have e:ptR (c::d::t)=(0,0):=by
       simp only [ptR,hb,hw,hp];rw [if_neg];rw [show ((2:Nat):Int)=2 from rfl,szR_two (by omega)];omega
      rw [e,er,en,if_neg (by decide),if_neg];rintro ⟨_,h⟩;simp only [encR,List.take_succ_cons,List.take_zero] at h;by_cases q:(c-192)*64+d % 64<128
      · rw [if_pos q] at h;simp at h
      · rw [if_neg q,if_pos (by omega)] at h;simp only [List.cons.injEq,and_true] at h;omega
 by_cases h4:c<240
 · have hb:hdB c=c-224:=by simp [hdB,h1,h2,h3,h4]
   have hw:hdW c=3:=by simp [hdW,h1,h2,h3,h4]
   have bad:∀t',Byt (c::t')->(∀d e s,t'=d::e::s->¬(128<=d/\d<192/\128<=e/\e<192))->ptR (c::t')=(0,0):=by
    intro t' ht hno;have hlow:0<=pts 3 t' (c-224) 1/\pts 3 t' (c-224) 1<2048:=by
     match t',ht,hno with
     | [],_,_=>simp only [pts];omega
     | [d],ht,_ =>
      have hd:=ht d (by simp);simp only [pts]
      split<;>omega
     | d::e::s,ht,hno =>
      have hd:=ht d (by simp);have he:=ht e (by simp);have:=hno d e s rfl;simp only [pts];by_cases q:1<3/\128<=d/\d<192
      · rw [if_pos q,if_neg (by omega)];omega
      · rw [if_neg q];omega
    simp only [ptR,hb,hw];rw [if_neg];rw [show ((3:Nat):Int)=3 from rfl,szR_three hlow.1];omega
   match t,h with
   | [],h =>
    have er:candR [c]=-1:=by
     simp only [candR,List.length_nil];rw [if_neg h1,if_neg (by omega),if_neg (by omega),if_neg (by omega)]
    rw [bad [] h (by intro d e s q;simp at q),er,if_neg (by decide),if_neg (by simp [isR])]
   | [d],h =>
    have er:candR [c,d]=-1:=by
     simp only [candR,List.length_cons,List.length_nil];rw [if_neg h1,if_neg (by omega),if_neg (by omega),if_neg (by omega)]
    rw [bad [d] h (by intro d e s q;simp at q),er,if_neg (by decide),if_neg (by simp [isR])]
   | d::e::t,h =>
    have hd:=h d (by simp);have he:=h e (by simp);have er:candR (c::d::e::t)=(c-224)*4096+d % 64*64+e % 64:=by
     simp only [candR,List.length_cons,List.getD_cons_zero,List.getD_cons_succ];rw [if_neg h1,if_neg (by omega),if_pos (by omega)]
    have en:candN (c::d::e::t)=3:=by
     simp only [candN,List.length_cons];rw [if_neg h1,if_neg (by omega),if_pos (by omega)]
    by_cases hq:128<=d/\d<192/\128<=e/\e<192
    · have hp:pts 3 (d::e::t) (c-224) 1=((c-224)*64+d % 64)*64+e % 64:=by
       simp only [pts];rw [if_pos (by omega),if_pos (by omega)];cases t<;>simp [pts]
      by_cases hz:2048<=(c-224)*4096+d % 64*64+e % 64/\((c-224)*4096+d % 64*64+e % 64<55296\/57343<(c-224)*4096+d % 64*64+e % 64)
      · have e':ptR (c::d::e::t)=((c-224)*4096+d % 64*64+e % 64,3):=by
         simp only [ptR,hb,hw,hp];rw [if_pos]
         · congr 1;omega
         · rw [show ((3:Nat):Int)=3 from rfl,szR_three (by omega)];omega
        have hE:encR ((c-224)*4096+d % 64*64+e % 64)=(c::d::e::t).take 3:=by
         simp only [encR,List.take_succ_cons,List.take_zero];rw [if_neg (by omega),if_neg (by omega),if_pos (by omega)]
         congr 1
         · omega
         · congr 1
           · omega
           · congr 1;omega
        rw [e',er,en,if_pos (Nat.succ_pos _),if_pos ⟨(isR_iff _).2 (by omega),hE⟩]
      · have e':ptR (c::d::e::t)=(0,0):=by
         simp only [ptR,hb,hw,hp];rw [if_neg];rw [show ((3:Nat):Int)=3 from rfl,szR_three (by omega)];omega
        rw [e',er,en,if_neg (by decide),if_neg];rintro ⟨hr,h⟩;rw [isR_iff] at hr;simp only [encR,List.take_succ_cons,List.take_zero] at h
        split at h
        · simp at h
        · split at h
          · simp at h
          · omega
    · rw [bad (d::e::t) h (by intro d' e' s q;simp at q;obtain ⟨rfl,rfl,rfl⟩:=q;exact hq),er,en,if_neg (by decide),if_neg];rintro ⟨_,h⟩;simp only [encR,List.take_succ_cons,List.take_zero] at h
      split at h
      · simp at h
      · split at h
        · simp at h
        · rw [if_pos (by omega)] at h;simp only [List.cons.injEq,and_true] at h;omega
 by_cases h5:c<248
 · have hb:hdB c=c-240:=by simp [hdB,h1,h2,h3,h4,h5]
   have hw:hdW c=4:=by simp [hdW,h1,h2,h3,h4,h5]
   have bad:∀t',Byt (c::t')->(∀d e f s,t'=d::e::f::s->¬(128<=d/\d<192/\128<=e/\e<192/\128<=f/\f<192))->ptR (c::t')=(0,0):=by
    intro t' ht hno;have hlow:0<=pts 4 t' (c-240) 1/\pts 4 t' (c-240) 1<65536:=by
     match t',ht,hno with
     | [],_,_=>simp only [pts];omega
     | [d],ht,_ =>
      have hd:=ht d (by simp);simp only [pts]
      split<;>omega
     | [d,e],ht,_ =>
      have hd:=ht d (by simp);have he:=ht e (by simp);simp only [pts]
      repeat' split
      all_goals omega
     | d::e::f::s,ht,hno =>
      have hd:=ht d (by simp);have he:=ht e (by simp);have hf:=ht f (by simp);have:=hno d e f s rfl;simp only [pts];by_cases q:1<4/\128<=d/\d<192
      · rw [if_pos q];by_cases q2:1+1<4/\128<=e/\e<192
        · rw [if_pos q2,if_neg (by omega)];omega
        · rw [if_neg q2];omega
      · rw [if_neg q];omega
    simp only [ptR,hb,hw];rw [if_neg];rw [show ((4:Nat):Int)=4 from rfl,szR_four hlow.1];omega
   match t,h with
   | [],h =>
    have er:candR [c]=-1:=by
     simp only [candR,List.length_nil];rw [if_neg h1,if_neg (by omega),if_neg (by omega),if_neg (by omega)]
    rw [bad [] h (by intro d e f s q;simp at q),er,if_neg (by decide),if_neg (by simp [isR])]
   | [d],h =>
    have er:candR [c,d]=-1:=by
     simp only [candR,List.length_cons,List.length_nil];rw [if_neg h1,if_neg (by omega),if_neg (by omega),if_neg (by omega)]
    rw [bad [d] h (by intro d e f s q;simp at q),er,if_neg (by decide),if_neg (by simp [isR])]
   | [d,e],h =>
    have er:candR [c,d,e]=-1:=by
     simp only [candR,List.length_cons,List.length_nil];rw [if_neg h1,if_neg (by omega),if_neg (by omega),if_neg (by omega)]
    rw [bad [d,e] h (by intro d e f s q;simp at q),er,if_neg (by decide),if_neg (by simp [isR])]
   | d::e::f::t,h =>
    have hd:=h d (by simp);have he:=h e (by simp);have hf:=h f (by simp);have er:candR (c::d::e::f::t)=(c-240)*262144+d % 64*4096+e % 64*64+f % 64:=by
     simp only [candR,List.length_cons,List.getD_cons_zero,List.getD_cons_succ];rw [if_neg h1,if_neg (by omega),if_neg (by omega),if_pos (by omega)]
    have en:candN (c::d::e::f::t)=4:=by
     simp only [candN,List.length_cons];rw [if_neg h1,if_neg (by omega),if_neg (by omega),if_pos (by omega)]
    by_cases hq:128<=d/\d<192/\128<=e/\e<192/\128<=f/\f<192
    · have hp:pts 4 (d::e::f::t) (c-240) 1=(((c-240)*64+d % 64)*64+e % 64)*64+f % 64:=by
       simp only [pts];rw [if_pos (by omega),if_pos (by omega),if_pos (by omega)];cases t<;>simp [pts]
      by_cases hz:65536<=(c-240)*262144+d % 64*4096+e % 64*64+f % 64/\(c-240)*262144+d % 64*4096+e % 64*64+f % 64<=1114111
      · have e':ptR (c::d::e::f::t)=((c-240)*262144+d % 64*4096+e % 64*64+f % 64,4):=by
         simp only [ptR,hb,hw,hp];rw [if_pos]
         · congr 1;omega
         · rw [show ((4:Nat):Int)=4 from rfl,szR_four (by omega)];omega
        have hE:encR ((c-240)*262144+d % 64*4096+e % 64*64+f % 64)=(c::d::e::f::t).take 4:=by
         simp only [encR,List.take_succ_cons,List.take_zero];rw [if_neg (by omega),if_neg (by omega),if_neg (by omega)]
         congr 1
         · omega
         · congr 1
           · omega
           · congr 1
             · omega
             · congr 1;omega
        rw [e',er,en,if_pos (Nat.succ_pos _),if_pos ⟨(isR_iff _).2 (by omega),hE⟩]
      · have e':ptR (c::d::e::f::t)=(0,0):=by
         simp only [ptR,hb,hw,hp];rw [if_neg];rw [show ((4:Nat):Int)=4 from rfl,szR_four (by omega)];omega
        rw [e',er,en,if_neg (by decide),if_neg];rintro ⟨hr,h⟩;rw [isR_iff] at hr;simp only [encR,List.take_succ_cons,List.take_zero] at h
        split at h
        · simp at h
        · split at h
          · simp at h
          · split at h
            · simp at h
            · omega
    · rw [bad (d::e::f::t) h (by intro d' e' f' s q;simp at q;obtain ⟨rfl,rfl,rfl,rfl⟩:=q;exact hq),er,en,if_neg (by decide),if_neg];rintro ⟨_,h⟩;simp only [encR,List.take_succ_cons,List.take_zero] at h
      split at h
      · simp at h
      · split at h
        · simp at h
        · split at h
          · simp at h
          · simp only [List.cons.injEq,and_true] at h;omega
 · have hb:hdB c=0:=by simp [hdB,h1,h2,h3,h4,h5]
   have hw:hdW c=0:=by simp [hdW,h1,h2,h3,h4,h5]
   have hp:pts 0 t 0 1=0:=by cases t<;>simp [pts]
   have e:ptR (c::t)=(0,0):=by
    simp only [ptR,hb,hw,hp]
    split<;>rfl
   have er:candR (c::t)=-1:=by
    simp only [candR];rw [if_neg h1,if_neg (by omega),if_neg (by omega),if_neg (by omega)]
   rw [e,er,if_neg (by decide),if_neg (by simp [isR])]
set_option maxHeartbeats 1000000
theorem head_any (c:Int) (h0:0<=c) (h1:c<=255) (w:World):Calls Tryz.prog 139 #[.int .u8 c] w λe w'=>e = .returned (.tuple #[.int .i64 (hdB c),.int .i64 (hdW c:Int)])/\w=w':=by
 by_cases a1:c<128
 · have e1:hdB c=c:=by simp [hdB,a1]
   have e2:hdW c=1:=by simp [hdW,a1]
   rw [e1,e2];clear e1 e2;go_enter Tryz.func139,Tryz.ntmps139;go_wp2
   go_ret2
   exact ⟨rfl,rfl⟩
 by_cases a2:c<192
 · have e1:hdB c=0:=by simp [hdB,a1,a2]
   have e2:hdW c=0:=by simp [hdW,a1,a2]
   rw [e1,e2];clear e1 e2;go_enter Tryz.func139,Tryz.ntmps139;go_wp2
   go_ret2
   exact ⟨rfl,rfl⟩
 by_cases a3:c<224
 · have e1:hdB c=c % 32:=by simp [hdB,a1,a2,a3];omega
   have e2:hdW c=2:=by simp [hdW,a1,a2,a3]
   rw [e1,e2];clear e1 e2;go_enter Tryz.func139,Tryz.ntmps139;go_wp2
   go_ret2
   exact ⟨rfl,rfl⟩
 by_cases a4:c<240
 · have e1:hdB c=c % 16:=by simp [hdB,a1,a2,a3,a4];omega
   have e2:hdW c=3:=by simp [hdW,a1,a2,a3,a4]
   rw [e1,e2];clear e1 e2;go_enter Tryz.func139,Tryz.ntmps139;go_wp2
   go_ret2
   exact ⟨rfl,rfl⟩
 by_cases a5:c<248
 · have e1:hdB c=c % 8:=by simp [hdB,a1,a2,a3,a4,a5];omega
   have e2:hdW c=4:=by simp [hdW,a1,a2,a3,a4,a5]
   rw [e1,e2];clear e1 e2;go_enter Tryz.func139,Tryz.ntmps139;go_wp2
   go_ret2
   exact ⟨rfl,rfl⟩
 · have e1:hdB c=0:=by simp [hdB,a1,a2,a3,a4,a5]
   have e2:hdW c=0:=by simp [hdW,a1,a2,a3,a4,a5]
   rw [e1,e2];clear e1 e2;go_enter Tryz.func139,Tryz.ntmps139;go_wp2
   go_ret2
   exact ⟨rfl,rfl⟩
def bdR (k:Nat):Int:=2*64 ^ k
theorem bdR_step (k:Nat):bdR (k+1)=64*bdR k:=by unfold bdR;rw [Int.pow_succ];omega
theorem bdR_1:bdR 1=128:=rfl
theorem bdR_le (k:Nat) (h:k<=4):bdR k<=33554432:=by
 match k,h with
 | 0,_=>decide
 | 1,_=>decide
 | 2,_=>decide
 | 3,_=>decide
 | 4,_=>decide
theorem hdB_bd (c:Int) (h0:0<=c) (h1:c<=255):0<=hdB c/\hdB c<128:=by
 unfold hdB
 repeat' split
 all_goals omega
theorem hdW_bd (c:Int):hdW c<=4:=by
 unfold hdW
 repeat' split
 all_goals omega
theorem drop_cons (l:List Int) (k:Nat) (h:k<l.length):l.drop k=l[k]?.getD 0::l.drop (k+1):=by
 rw [List.drop_eq_getElem_cons h];simp [h]
theorem byt_get {l:List Int} (hl:Byt l) (j:Nat):(0:Int)<=l[j]?.getD 0/\(l[j]?.getD 0:Int)<=255:=by
 by_cases h:j<l.length
 · have:=hl _ (List.getElem_mem h);simpa [h] using this
 · rw [List.getElem?_eq_none (Nat.le_of_not_lt h)];simp
theorem tail_all:∀c:Fin 256,(bits BinOp.andNot .u8 c.1 63==128)=decide (128<=c.1/\c.1<192):=by decide +kernel
theorem tail_of (c:Int) (h0:0<=c) (h1:c<=255):(bits BinOp.andNot .u8 c 63==128)=decide (128<=c/\c<192):=by
 have h:=tail_all ⟨c.toNat,by omega⟩;have e:((c.toNat:Nat):Int)=c:=by omega
 simp only [e] at h;rw [h];apply decide_eq_decide.2;omega
theorem join_of (x y:Int) (h0:0<=x) (h1:x<33554432) (h2:0<=y) (h3:y<64):bits BinOp.or .i64 (x*64) y=x*64+y:=by
 obtain ⟨a,rfl⟩:=Int.eq_ofNat_of_zero_le h0;obtain ⟨b,rfl⟩:=Int.eq_ofNat_of_zero_le h2;have e:((a:Int)*64)=((a*64:Nat):Int):=by omega
 rw [e];have hj:=nat_join 6 (a*64) b (by omega) (by omega);show IntKind.i64.wrap ((BitVec.ofInt 64 ((a*64:Nat):Int) ||| BitVec.ofInt 64 (b:Int)).toNat:Int)=_;rw [BitVec.toNat_or,ofInt_u64 (a*64) (by omega),ofInt_u64 b (by omega),hj];have hw':IntKind.i64.wrap ((a*64+b:Nat):Int)=((a*64+b:Nat):Int):=by
  have h:IntKind.i64.wrap ((a*64+b:Nat):Int)=wrap64 ((a*64+b:Nat):Int):=by simp [IntKind.wrap,IntKind.bits,IntKind.signed,wrap64];omega
  rw [h,IntWalk.wrap64_in _ ⟨by omega,by omega⟩]
 rw [hw'];omega
def PtInv (l:List Int) (k:Nat) (r:Int) (wd:Nat):Prop :=
 (k=0/\r=0/\wd=0)\/(1<=k/\k<=4/\0<=r/\r<bdR k/\wd=hdW (l[0]?.getD 0)/\wd<=4/\(k=1\/k<=wd)/\pts wd (l.drop k) r k=pts wd (l.drop 1) (hdB (l[0]?.getD 0)) 1)
theorem ptR_of {l:List Int} {r:Int} {wd:Nat} (h1:1<=l.length) (hw:wd=hdW (l[0]?.getD 0)) (hr:r=pts wd (l.drop 1) (hdB (l[0]?.getD 0)) 1) :
 ptR l=if szR r=(wd:Int) then (r,wd) else (0,0):=by
 match l,h1 with
 | c::t,_=>subst hr;subst hw;simp [ptR]
theorem point_any (l:List Int) (hl:Byt l) (h1:1<=l.length) (hlen:l.length<=65536) (b off cap:Nat) (w:World) (hc:∀j,j<l.length->w.cell? ⟨b,off+j,none⟩=some (.int .u8 (l[j]?.getD 0))) :
 Calls Tryz.prog 107 #[.slice (some ⟨b,off,none⟩) l.length cap] w λe w'=>e = .returned (.tuple #[.int .i64 (ptR l).1,.int .i64 ((ptR l).2:Int)])/\w=w':=by
 obtain ⟨L,hL⟩ :∃L,L=l.length:=⟨_,rfl⟩;rw [<- hL];rw [<- hL] at h1 hlen;have HL:Hid (L=l.length):=hL;have HC:Hid (∀j,j<L->w.cell? ⟨b,off+j,none⟩=some (.int .u8 (l[j]?.getD 0))):=λj hj=>hc j (by omega);have HBY:Hid (∀j:Nat,(0:Int)<=l[j]?.getD 0/\(l[j]?.getD 0:Int)<=255):=byt_get hl;clear hL hc hl;go_enter Tryz.func107,Tryz.ntmps107;go_wp2
 go_step3
 go_wp2
 go_step3
 go_wp2
 go_loop [2,3,8] (λr wd i=>∃(k:Nat) (ρ:Int) (W:Nat),k<=L/\i = .int .i64 k/\r = .int .i64 ρ/\wd = .int .i64 (W:Int)/\PtInv l k ρ W) (λ_ _ i=>L-(intOf i).toNat)
 case atStart=>exact ⟨0,0,0,Nat.zero_le _,rfl,rfl,rfl,.inl ⟨rfl,rfl,rfl⟩⟩
 case round =>
  obtain ⟨k,ρ,W,hk,rfl,rfl,rfl,hinv⟩:=hrel;have HI:Hid (PtInv l k ρ W):=hinv;clear hinv;by_cases hlt:k<L
  · have hb:=HBY.out k;have hcx:=HC.out k hlt;by_cases hk0:k=0
    · subst hk0;have hcx0:w.cell? ⟨b,off,none⟩=some (.int .u8 (l[0]?.getD 0)):=hcx;clear hcx;have HH:=head_any (l[0]?.getD 0) hb.1 hb.2;have hbd:=hdB_bd (l[0]?.getD 0) hb.1 hb.2;have hwd:=hdW_bd (l[0]?.getD 0)
      go_wp2_with (go_at_call 139;refine (HH _).mono ?_;rintro e w' ⟨rfl,rfl⟩)
      go_round
      case rel=>exact ⟨1,hdB (l[0]?.getD 0),hdW (l[0]?.getD 0),by omega,rfl,rfl,rfl,.inr ⟨by omega,by omega,hbd.1,by rw [bdR_1];exact hbd.2,rfl,hwd,.inl rfl,rfl⟩⟩
      case measure=>simp [intOf];omega
    · obtain ⟨j1,j2,j3,j4,j5,j6,j7,j8⟩:1<=k/\k<=4/\0<=ρ/\ρ<bdR k/\W=hdW (l[0]?.getD 0)/\W<=4/\(k=1\/k<=W)/\pts W (l.drop k) ρ k=pts W (l.drop 1) (hdB (l[0]?.getD 0)) 1:=by
       rcases HI.out with h | h
       · omega
       · exact h
      have hkb:((k:Int)==0)=false:=by simp;omega
      have hbk:=bdR_le k j2;have hdr:=drop_cons l k (by have:=HL.out;omega);have HD:Hid (l.drop k=l[k]?.getD 0::l.drop (k+1)):=hdr;have H5:Hid (W=hdW (l[0]?.getD 0)):=j5;have H8:Hid (pts W (l.drop k) ρ k=pts W (l.drop 1) (hdB (l[0]?.getD 0)) 1):=j8;have H4:Hid (ρ<bdR k):=j4;have hρ:ρ<33554432:=by omega
      clear hdr j5 j8 j4 hbk HI;by_cases hkw:(k:Int)<(W:Int)
      · have htl:=tail_of _ hb.1 hb.2;by_cases ht:128<=(l[k]?.getD 0:Int)/\(l[k]?.getD 0:Int)<192
        · have htt:(bits BinOp.andNot IntKind.u8 (l[k]?.getD 0) 63==128)=true:=by rw [htl];simpa using ht
          have hjn:=join_of ρ (l[k]?.getD 0 % 64) j3 hρ (by omega) (by omega);have HN:Hid (pts W (l.drop k) ρ k=pts W (l.drop (k+1)) (ρ*64+l[k]?.getD 0 % 64) (k+1)):=by
           rw [HD.out];simp only [pts];rw [if_pos ⟨by omega,ht⟩];rfl
          clear htl;go_wp2
          go_round
          case rel =>
           have hst:=bdR_step k;have h4:=H4.out;refine ⟨k+1,ρ*64+l[k]?.getD 0 % 64,W,by omega,by go_num,rfl,rfl,.inr ⟨by omega,by omega,by omega,by omega,H5.out,j6,.inr (by omega),?_⟩⟩;rw [<- HN.out];exact H8.out
          case measure=>simp [intOf];omega
        · have htt:(bits BinOp.andNot IntKind.u8 (l[k]?.getD 0) 63==128)=false:=by rw [htl];simpa using ht
          have HN:Hid (pts W (l.drop k) ρ k=ρ):=by
           show pts W (l.drop k) ρ k=ρ;rw [HD.out];simp only [pts];rw [if_neg (by omega)]
          clear htl ht;have HR:Hid (ptR l=if szR ρ=(W:Int) then (ρ,W) else (0,0)):=ptR_of (by have:=HL.out;omega) H5.out (by rw [<- H8.out,HN.out]);by_cases hz:szR ρ=(W:Int)
          · have hzb:(szR ρ != (W:Int))=false:=by simp [hz]
            have HZ:Hid (szR ρ=(W:Int)):=hz;clear hz
            go_wp2_with (go_at_call 140;refine (size_any _ _).mono ?_;rintro e w' ⟨rfl,rfl⟩)
            try rw [Exit.noGoto_ret]
            go_ret2
            exact ⟨by rw [HR.out,if_pos HZ.out];rfl,rfl⟩
          · have hzb:(szR ρ != (W:Int))=true:=by simp [hz]
            have HZ:Hid (¬szR ρ=(W:Int)):=hz;clear hz
            go_wp2_with (go_at_call 140;refine (size_any _ _).mono ?_;rintro e w' ⟨rfl,rfl⟩)
            try rw [Exit.noGoto_ret]
            go_ret2
            exact ⟨by rw [HR.out,if_neg HZ.out];rfl,rfl⟩
      · have HN:Hid (pts W (l.drop k) ρ k=ρ):=by
         show pts W (l.drop k) ρ k=ρ;rw [HD.out];simp only [pts];rw [if_neg (by omega)]
        have HR:Hid (ptR l=if szR ρ=(W:Int) then (ρ,W) else (0,0)):=ptR_of (by have:=HL.out;omega) H5.out (by rw [<- H8.out,HN.out]);by_cases hz:szR ρ=(W:Int)
        · have hzb:(szR ρ != (W:Int))=false:=by simp [hz]
          have HZ:Hid (szR ρ=(W:Int)):=hz;clear hz
          go_wp2_with (go_at_call 140;refine (size_any _ _).mono ?_;rintro e w' ⟨rfl,rfl⟩)
          try rw [Exit.noGoto_ret]
          go_ret2
          exact ⟨by rw [HR.out,if_pos HZ.out];rfl,rfl⟩
        · have hzb:(szR ρ != (W:Int))=true:=by simp [hz]
          have HZ:Hid (¬szR ρ=(W:Int)):=hz;clear hz
          go_wp2_with (go_at_call 140;refine (size_any _ _).mono ?_;rintro e w' ⟨rfl,rfl⟩)
          try rw [Exit.noGoto_ret]
          go_ret2
          exact ⟨by rw [HR.out,if_neg HZ.out];rfl,rfl⟩
  · obtain ⟨j1,j2,j3,j4,j5,j6,j7,j8⟩:1<=k/\k<=4/\0<=ρ/\ρ<bdR k/\W=hdW (l[0]?.getD 0)/\W<=4/\(k=1\/k<=W)/\pts W (l.drop k) ρ k=pts W (l.drop 1) (hdB (l[0]?.getD 0)) 1:=by
     rcases HI.out with h | h
     · omega
     · exact h
    have hn:l.drop k=[]:=List.drop_eq_nil_of_le (by have:=HL.out;omega);have HR:Hid (ptR l=if szR ρ=(W:Int) then (ρ,W) else (0,0)):=ptR_of (by have:=HL.out;omega) j5 (by rw [<- j8,hn];rfl);clear j1 j2 j4 j5 j6 j7 j8 hn HI;by_cases hz:szR ρ=(W:Int)
    · have hzb:(szR ρ != (W:Int))=false:=by simp [hz]
      have HZ:Hid (szR ρ=(W:Int)):=hz;clear hz
      go_wp2_with (go_at_call 140;refine (size_any _ _).mono ?_;rintro e w' ⟨rfl,rfl⟩)
      try rw [Exit.noGoto_ret]
      go_ret2
      exact ⟨by rw [HR.out,if_pos HZ.out];rfl,rfl⟩
    · have hzb:(szR ρ != (W:Int))=true:=by simp [hz]
      have HZ:Hid (¬szR ρ=(W:Int)):=hz;clear hz
      go_wp2_with (go_at_call 140;refine (size_any _ _).mono ?_;rintro e w' ⟨rfl,rfl⟩)
      try rw [Exit.noGoto_ret]
      go_ret2
      exact ⟨by rw [HR.out,if_neg HZ.out];rfl,rfl⟩
theorem candN_bd (c:Int) (t:List Int):1<=candN (c::t)/\candN (c::t)<=4/\candN (c::t)<=(c::t).length:=by
 simp only [candN,List.length_cons]
 repeat' split
 all_goals omega
theorem unD_good {l:List Int} (h1:1<=l.length) (h:(unD l).bad=false):isR (unD l).r=true/\encR (unD l).r=l.take (unD l).w/\1<=(unD l).w/\(unD l).w<=4/\(unD l).w<=l.length:=by
 match l,h1 with
 | c::t,_ =>
  have hn:=candN_bd c t;unfold unD at h ⊢;by_cases q:isR (candR (c::t))=true/\encR (candR (c::t))=(c::t).take (candN (c::t))
  · rw [if_pos q];exact ⟨q.1,q.2,hn⟩
  · rw [if_neg q] at h;cases h
theorem unD_bad {l:List Int} (h:(unD l).bad=true):(unD l).r=65533/\(unD l).w=1:=by
 unfold unD at h ⊢;by_cases q:isR (candR l)=true/\encR (candR l)=l.take (candN l)
 · rw [if_pos q] at h;cases h
 · rw [if_neg q];exact ⟨rfl,rfl⟩
structure U where
 r:Int
 p:Nat
 w:Nat
 bad:Bool
def unitAt (b:List Int) (p:Nat):U:=⟨(unD (b.drop p)).r,p,(unD (b.drop p)).w,(unD (b.drop p)).bad⟩
theorem unP_drop {b:List Int} (hb:Byt b) {p:Nat} (h:p<b.length):unP (b.drop p)=unD (b.drop p):=by
 have e:b.drop p=b[p]::b.drop (p+1):=List.drop_eq_getElem_cons h;rw [e];apply unP_eq;rw [<- e];intro c hc;exact hb c (List.mem_of_mem_drop hc)
theorem unitAt_w {b:List Int} {p:Nat} (h:p<b.length):1<=(unitAt b p).w/\(unitAt b p).w<=4/\p+(unitAt b p).w<=b.length:=by
 have hl:1<=(b.drop p).length:=by rw [List.length_drop];omega
 unfold unitAt;cases hb:(unD (b.drop p)).bad with
 | false=>have:=unD_good hl hb;rw [List.length_drop] at this;dsimp only;omega
 | true=>have:=unD_bad hb;dsimp only;rw [this.2];omega
theorem unitAt_r {b:List Int} {p:Nat} (h:p<b.length):0<=(unitAt b p).r/\(unitAt b p).r<=1114111:=by
 have hl:1<=(b.drop p).length:=by rw [List.length_drop];omega
 unfold unitAt;cases hb:(unD (b.drop p)).bad with
 | false=>have:=(isR_iff _).1 (unD_good hl hb).1;dsimp only;omega
 | true=>have:=unD_bad hb;dsimp only;rw [this.1];omega
def Run (b:List Int):Nat->List U->Nat->Prop
 | p,[],q=>p=q
 | p,u::us,q=>p<b.length/\u=unitAt b p/\Run b (p+u.w) us q
theorem Run.snoc {b:List Int}:∀ {us:List U} {p q:Nat},Run b p us q->q<b.length->Run b p (us++[unitAt b q]) (q+(unitAt b q).w)
 | [],p,q,h,hq=>by
  obtain rfl:p=q:=h;exact ⟨hq,rfl,rfl⟩
 | u::us,p,q,h,hq=>⟨h.1,h.2.1,Run.snoc h.2.2 hq⟩
theorem Run.le {b:List Int}:∀ {us:List U} {p q:Nat},Run b p us q->p<=b.length->p+us.length<=q/\q<=b.length
 | [],p,q,h,hp=>by
  obtain rfl:p=q:=h;simp;omega
 | u::us,p,q,h,hp=>by
  have hw:=unitAt_w h.1;rw [<- h.2.1] at hw;have:=Run.le h.2.2 hw.2.2;simp only [List.length_cons];omega
theorem Run.unique {b:List Int}:∀ {us vs:List U} {p:Nat},Run b p us b.length->Run b p vs b.length->us=vs
 | [],[],_,_,_=>rfl
 | [],v::vs,p,h,k=>by
  have h':p=b.length:=h;have:=k.1;omega
 | u::us,[],p,h,k=>by
  have k':p=b.length:=k;have:=h.1;omega
 | u::us,v::vs,p,h,k=>by
  obtain rfl:u=v:=h.2.1.trans k.2.1.symm;rw [Run.unique h.2.2 k.2.2]
theorem Run.exists (b:List Int):∀(n p:Nat),b.length-p<=n->p<=b.length->∃us,Run b p us b.length
 | 0,p,h,hp=>⟨[],show p=b.length by omega⟩
 | n+1,p,h,hp=>by
  by_cases e:p=b.length
  · exact ⟨[],e⟩
  · have hlt:p<b.length:=by omega
    have hw:=unitAt_w hlt;obtain ⟨us,hus⟩:=Run.exists b n (p+(unitAt b p).w) (by omega) (by omega);exact ⟨unitAt b p::us,hlt,rfl,hus⟩
end Go.Proofs.YtfdjchnckjgapaaGreatDoor.S1
