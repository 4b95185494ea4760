/-
  Shelf7 SetTxt RefTxt SrcP FewP PrM MayP MayP2 SetsP SetsP2 RightP StrP TxM PrtP RulW PriP
-/
import Derived.Shelf.Strings.Builder1
import Derived.Shelf.Strings.Builder2
import Derived.Shelf.Strings.OnBuilder
import Derived.Shelf.Strings.BuilderK
import Derived.Test.YtfdjchnckjgapaaGreatDoorProg
import Derived.Test.YtfdjchnckjgapaaGreatDoorZ41
import Derived.Test.YtfdjchnckjgapaaGreatDoorZ02
import Derived.BigQuiet
import Derived.Test.YtfdjchnckjgapaaGreatDoorZ38
import Derived.Test.YtfdjchnckjgapaaGreatDoorZ26
import Derived.Test.YtfdjchnckjgapaaGreatDoorZ16
import Derived.Test.YtfdjchnckjgapaaGreatDoorZ04
import Derived.Test.YtfdjchnckjgapaaGreatDoorZ23
import Derived.Lib.AppendStr
import Derived.Deep.RegionHeld3
import Derived.Deep.AppendLies
namespace Go.Proofs.YtfdjchnckjgapaaGreatDoor
open Go.Shelf Go.RowKit
end Go.Proofs.YtfdjchnckjgapaaGreatDoor
namespace Go.Proofs.YtfdjchnckjgapaaGreatDoor
open Go.RowKit Go.Shelf S1
set_option linter.unusedVariables false
def brL (n:Nat):List Int:=92::120::123::((digL n).map upC++[125])
def rgL (r:Rg):List Int:=brL r.lo.toNat++(if r.hi=r.lo then [] else 45::brL r.hi.toNat)
def setLs (l:List Rg):List Int:=l.flatMap rgL
def setL (l:List Rg):List Int:=91::(setLs l++[93])
theorem strOf_append (a b:List Int):strOfNums (a++b)=strOfNums a++strOfNums b:=by
 unfold strOfNums;apply ByteArray.ext;simp
theorem strOf_toList (l:List Int):(strOfNums l).data.toList=l.map λn=>UInt8.ofNat n.toNat:=by simp [strOfNums]
theorem strOf_size (l:List Int):(strOfNums l).size=l.length:=by
 show (strOfNums l).data.size=_;simp [strOfNums]
theorem digL_lt (n:Nat):∀d∈digL n,d<16:=digF_lt 6 n
theorem brL_len (n:Nat):(brL n).length<=10:=by
 have:=digF_len 6 n;simp [brL,digL];omega
theorem upC_byt (d:Nat) (h:d<16):48<=upC d/\upC d<=70:=by
 unfold upC;split<;>omega
theorem brL_byt (n:Nat):∀c∈brL n,45<=c/\c<=125:=by
 intro c hc;unfold brL at hc;simp only [List.mem_cons,List.mem_append,List.mem_map,List.not_mem_nil,or_false] at hc;rcases hc with rfl | rfl | rfl | ⟨d,hd,rfl⟩ | rfl
 · omega
 · omega
 · omega
 · have:=upC_byt d (digL_lt n d hd);omega
 · omega
theorem rgL_byt (r:Rg):∀c∈rgL r,45<=c/\c<=125:=by
 intro c hc;unfold rgL at hc;rcases List.mem_append.1 hc with hc | hc
 · exact brL_byt _ c hc
 · split at hc
   · cases hc
   · rcases List.mem_cons.1 hc with rfl | hc
     · omega
     · exact brL_byt _ c hc
theorem setLs_byt (l:List Rg):∀c∈setLs l,45<=c/\c<=125:=by
 intro c hc;obtain ⟨r,_,hr⟩:=List.mem_flatMap.1 hc;exact rgL_byt r c hr
theorem setL_byt (l:List Rg):∀c∈setL l,45<=c/\c<=125:=by
 intro c hc;unfold setL at hc;rcases List.mem_cons.1 hc with rfl | hc
 · omega
 · rcases List.mem_append.1 hc with hc | hc
   · exact setLs_byt l c hc
   · obtain rfl:c=93:=by simpa using hc
     omega
theorem rgL_len (r:Rg):(rgL r).length<=21:=by
 unfold rgL;have h1:=brL_len r.lo.toNat;have h2:=brL_len r.hi.toNat
 split<;>simp<;>omega
theorem setLs_len:∀(l:List Rg),(setLs l).length<=21*l.length
 | []=>by simp [setLs]
 | r::l=>by
  have h1:=rgL_len r;have h2:=setLs_len l;show (rgL r++setLs l).length<=_;simp;omega
theorem byt_of {l:List Int} (h:∀c∈l,45<=c/\c<=125):Byt l:=λc hc=>by have:=h c hc;omega
theorem setLs_snoc (l:List Rg) (r:Rg):setLs (l++[r])=setLs l++rgL r:=by simp [setLs]
set_option maxHeartbeats 4000000
set_option maxRecDepth 100000
theorem dig_up (d:Nat) (h:d<16) (h2:d<(⟨(48::49::50::51::52::53::54::55::56::57::65::66::67::68::69::70::[]).toArray⟩:ByteArray).size):((((⟨(48::49::50::51::52::53::54::55::56::57::65::66::67::68::69::70::[]).toArray⟩:ByteArray))[d]'h2).toNat:Int)=upC d:=by
 have key:∀d:Fin 16,((((⟨(48::49::50::51::52::53::54::55::56::57::65::66::67::68::69::70::[]).toArray⟩:ByteArray))[d.val]'d.isLt).toNat:Int)=upC d.val:=by decide +kernel
 exact key ⟨d,h⟩
theorem hexa_small (n:Nat) (h:n<16) (w:World):Calls Tryz.prog 98 #[.int .i64 n] w λe w'=>e = .returned (.string (strOfNums [upC n]))/\Below w.heap.size w w':=by
 have hi:(n:Int)<16:=by omega
 have hi0:(0:Int)<=(n:Int):=by omega
 have h2:n<(⟨(48::49::50::51::52::53::54::55::56::57::65::66::67::68::69::70::[]).toArray⟩:ByteArray).size:=h;have hb:Below w.heap.size w (w.alloc (.cells #[.int .u8 (upC n)] 5)):=(Below.refl _ w).alloc (Nat.le_refl _) _;have hcv:(convert 22 9 (.slice (some ⟨w.heap.size,0,none⟩) 1 1)).run Tryz.prog (w.alloc (.cells #[.int .u8 (upC n)] 5)) = .ok (.string (strOfNums [upC n])) (w.alloc (.cells #[.int .u8 (upC n)] 5)):=by
  refine TxtAt.conv (R:=w.heap.size+1) (l:=[upC n]) ⟨_,1,rfl,Nat.le_refl _,λi hi=>⟨w.heap.size,0,rfl,by omega,?_⟩⟩;obtain rfl:i=0:=by simpa using hi
  exact cell_of_row _ _ 0 _ _ _ (heap_new' w _)
 obtain ⟨str,hstr⟩ :∃str,str=strOfNums [upC n]:=⟨_,rfl⟩;rw [<- hstr] at hcv ⊢;rw [<- dig_up n h h2] at hcv hb;clear hstr;go_enter Tryz.func98,Tryz.ntmps98;go_wp2;go_ret;exact ⟨rfl,hb⟩
theorem hexa_any:∀(k n:Nat),n<16 ^ (k+1)->n<16777216->∀w:World,Calls Tryz.prog 98 #[.int .i64 n] w λe w'=>e = .returned (.string (strOfNums ((digF (k+1) n).map upC)))/\Below w.heap.size w w'
 | 0,n,hn,hb,w=>by
  have h:n<16:=by simpa using hn
  rw [digF_small h];exact hexa_small n h w
 | j+1,n,hn,hb,w=>by
  by_cases h:n<16
  · rw [digF_small h];exact hexa_small n h w
  · have h1:=λW=>hexa_any j (n / 16) (by rw [Nat.pow_succ] at hn;omega) (by omega) W;have h2:=λW=>hexa_small (n % 16) (by omega) W;rw [digF_great (by omega)];have e1:((n / 16:Nat):Int)=(n:Int) / 16:=by omega
    have e2:((n % 16:Nat):Int)=(n:Int) % 16:=by omega
    rw [e1] at h1;rw [e2] at h2;rw [List.map_append,strOf_append];have z1:(strOfNums ((digF (j+1) (n / 16)).map upC)).size<=j+1:=by rw [strOf_size,List.length_map];exact digF_len _ _
    have z1':(strOfNums ((digF (j+1) (n / 16)).map upC)).size<=1000:=by
     rw [strOf_size,List.length_map];exact Nat.le_trans (digF_short _ _ (by omega)) (by omega)
    have z2:(strOfNums ([n % 16].map upC)).size=1:=by rw [strOf_size];rfl
    have h2':∀W,Calls Tryz.prog 98 #[.int .i64 ((n:Int) % 16)] W λe w'=>e = .returned (.string (strOfNums ([n % 16].map upC)))/\Below W.heap.size W w':=h2;obtain ⟨s1,hs1⟩ :∃s1,s1=strOfNums ((digF (j+1) (n / 16)).map upC):=⟨_,rfl⟩;obtain ⟨s2,hs2⟩ :∃s2,s2=strOfNums ([n % 16].map upC):=⟨_,rfl⟩;rw [<- hs1] at h1 z1' ⊢;rw [<- hs2] at h2' z2 ⊢;have hz:¬9223372036854775807<s1.size+s2.size:=by omega
    have hlt:decide ((n:Int)<16)=false:=by simp;omega
    clear hs1 hs2 h2 z1 hn e1 e2 h;go_enter Tryz.func98,Tryz.ntmps98
    go_wp2_with fail
    refine (h1 _).mono ?_;rintro e w1 ⟨rfl,hB1⟩;have hsz:=hB1.size
    go_wp2_with fail
    refine (h2' _).mono ?_;rintro e w2 ⟨rfl,hB2⟩;go_wp2;go_ret;exact ⟨rfl,hB1.trans (hB2.mono hsz)⟩
theorem str_lit3 (a:List Int) (n:Nat):strOfNums a++⟨#[92,120,123]⟩++strOfNums ((digL n).map upC)++⟨#[125]⟩=strOfNums (a++brL n):=by
 rw [show (⟨#[92,120,123]⟩:ByteArray)=strOfNums [92,120,123] from rfl,show (⟨#[125]⟩:ByteArray)=strOfNums [125] from rfl,<- strOf_append,<- strOf_append,<- strOf_append]
 congr 1
 simp [brL]
theorem str_lit4 (a:List Int) (n:Nat):strOfNums a++⟨#[45,92,120,123]⟩++strOfNums ((digL n).map upC)++⟨#[125]⟩=strOfNums (a++45::brL n):=by
 rw [show (⟨#[45,92,120,123]⟩:ByteArray)=strOfNums [45,92,120,123] from rfl,show (⟨#[125]⟩:ByteArray)=strOfNums [125] from rfl,<- strOf_append,<- strOf_append,<- strOf_append]
 congr 1
 simp [brL]
theorem str_end (a:List Int):strOfNums a++⟨#[93]⟩=strOfNums (a++[93]):=by
 rw [show (⟨#[93]⟩:ByteArray)=strOfNums [93] from rfl,<- strOf_append]
theorem refSetTxt_any (l:List Rg) (hf:Fits l) (hl:l.length<=4000) (v:Value) (w:World) (hv:RngIn w v l) :
 Calls Tryz.prog 57 #[v] w λe w'=>e = .returned (.string (strOfNums (setL l)))/\Below w.heap.size w w':=by
 obtain ⟨a,cap,rfl,hc,hi⟩:=hv;have HI:Hid (∀i,(h:i<l.length)->∃g off,a=some ⟨g,off,none⟩/\g<w.heap.size/\w.cell? ⟨g,off+i*2,none⟩=some (.int .i64 l[i].lo)/\w.cell? ⟨g,off+i*2+1,none⟩=some (.int .i64 l[i].hi)):=hi;have HF:Hid (Fits l):=hf;clear hi hf;go_enter Tryz.func57,Tryz.ntmps57;go_wp2
 go_loopw [3,4] (λxs xk wr=>∃(k:Nat) (S:ByteArray),k<=l.length/\xs = .string S/\xk = .int .i64 k/\Hid (S=strOfNums (91::setLs (l.take k)))/\Below w.heap.size w wr) (λ_ xk _=>l.length-(intOf xk).toNat)
 case atStart=>exact ⟨0,_,Nat.zero_le _,rfl,rfl,(by show _=_;rfl),Below.refl _ _⟩
 case round =>
  obtain ⟨k,S,hk,rfl,rfl,HS,hB⟩:=hrel;have hbs:=hB.size;have hln:=setLs_len (l.take k);have hln2:(l.take k).length<=4000:=by rw [List.length_take];omega
  have hSz:S.size<=85000:=by rw [HS.out,strOf_size,List.length_cons];omega
  clear hln hln2;by_cases hlt:k<l.length
  · obtain ⟨g,off,rfl,hg,c0,c1⟩:=HI.out k hlt;obtain ⟨r,hr⟩ :∃r,r=l[k]:=⟨_,rfl⟩;have hrf:=HF.out r (by rw [hr];exact List.getElem_mem hlt);have HST:Hid (setLs (l.take (k+1))=setLs (l.take k)++rgL r):=by
     show _=_;rw [List.take_succ_eq_append_getElem hlt,setLs_snoc,hr]
    rw [<- hr] at c0 c1;clear hr;obtain ⟨lo,hlo⟩ :∃lo:Nat,lo=r.lo.toNat:=⟨_,rfl⟩;obtain ⟨hi,hhi⟩ :∃hi:Nat,hi=r.hi.toNat:=⟨_,rfl⟩;have elo:r.lo=(lo:Int):=by have:=hrf.1;omega
    have ehi:r.hi=(hi:Int):=by have:=hrf.1;have:=hrf.2.1;omega
    have hlob:lo<16777216:=by have:=hrf.2.1;have:=hrf.2.2;omega
    have hhib:hi<16777216:=by have:=hrf.2.2;omega
    have h66:(16 ^ (5+1):Nat)=16777216:=by decide
    rw [elo] at c0;rw [ehi] at c1;have HRG:Hid (rgL r=brL lo++(if (hi:Int)=(lo:Int) then [] else 45::brL hi)):=by show _=_;unfold rgL;rw [<- hlo,<- hhi,elo,ehi]
    have hk0:(0:Int)<=(k:Int):=by omega
    have hk1:(k:Int)<(l.length:Int):=by omega
    have d0:wr.cell? ⟨g,off+k*2,none⟩=some (.int .i64 (lo:Int)):=(hB.cell (p:=⟨g,_,none⟩) hg).trans c0;have hx1:=hexa_any 5 lo (by omega) hlob wr;have HX2:Hid (∀W,Calls Tryz.prog 98 #[.int .i64 hi] W λe w'=>e = .returned (.string (strOfNums ((digL hi).map upC)))/\Below W.heap.size W w'):=λW=>hexa_any 5 hi (by omega) hhib W;have hx1':Calls Tryz.prog 98 #[.int .i64 lo] wr λe w'=>e = .returned (.string (strOfNums ((digL lo).map upC)))/\Below wr.heap.size wr w':=hx1;have HS1:Hid (S++⟨#[92,120,123]⟩++strOfNums ((digL lo).map upC)++⟨#[125]⟩=strOfNums (91::setLs (l.take k)++brL lo)):=by show _=_;rw [HS.out];exact str_lit3 _ _
    have z1:(strOfNums ((digL lo).map upC)).size<=6:=by rw [strOf_size,List.length_map];exact digF_len 6 lo
    obtain ⟨s1,hs1⟩ :∃s1,s1=strOfNums ((digL lo).map upC):=⟨_,rfl⟩;rw [<- hs1] at hx1' HS1 z1;have y1:¬9223372036854775807<S.size+3:=by omega
    have y2:¬9223372036854775807<S.size+3+s1.size:=by omega
    have y3:¬9223372036854775807<S.size+3+s1.size+1:=by omega
    clear elo ehi hlo hhi hrf hx1 hs1
    go_wp2_with fail
    refine hx1'.mono ?_;rintro e w2 ⟨rfl,hB2⟩;have hs2:=hB2.size;have hB02:Below w.heap.size w w2:=hB.trans (hB2.mono hbs);have e0:w2.cell? ⟨g,off+k*2,none⟩=some (.int .i64 (lo:Int)):=(hB02.cell (p:=⟨g,_,none⟩) hg).trans c0;have e1:w2.cell? ⟨g,off+k*2+1,none⟩=some (.int .i64 (hi:Int)):=(hB02.cell (p:=⟨g,_,none⟩) hg).trans c1;clear hx1' d0 c0;go_wp2;obtain ⟨S1,hS1⟩ :∃S1,S1=S++⟨#[92,120,123]⟩++s1++⟨#[125]⟩:=⟨_,rfl⟩;have HE1:Hid (S1=strOfNums (91::setLs (l.take k)++brL lo)):=hS1.trans HS1.out;have hS1z:S1.size<=85100:=by
     have h1:=setLs_len (l.take k);have h2:(l.take k).length<=4000:=by rw [List.length_take];omega
     have h3:=brL_len lo;rw [HE1.out,strOf_size];simp only [List.length_append,List.length_cons];omega
    rw [<- hS1];clear hS1;by_cases hq:(hi:Int)=(lo:Int)
    · have hq':((hi:Int) != (lo:Int))=false:=by simpa using hq
      have HB4:Hid (S1=strOfNums (91::setLs (l.take (k+1)))):=by
       show _=_;rw [HE1.out,HST.out,HRG.out,if_pos hq,List.append_nil];rfl
      clear hq
      go_quiet (fail)
      go_wp2
      go_roundw
      case rel=>exact ⟨k+1,S1,by omega,rfl,by go_num,HB4,below_drewN' hB02 _⟩
      case measure=>simp [intOf];omega
    · have hq':((hi:Int) != (lo:Int))=true:=by simpa using hq
      have HS2:Hid (S1++⟨#[45,92,120,123]⟩++strOfNums ((digL hi).map upC)++⟨#[125]⟩=strOfNums (91::setLs (l.take (k+1)))):=by
       show _=_;rw [HE1.out,HST.out,HRG.out,if_neg hq,str_lit4]
       congr 1
       simp
      have z2:(strOfNums ((digL hi).map upC)).size<=6:=by rw [strOf_size,List.length_map];exact digF_len 6 hi
      have hx2:=HX2.out;obtain ⟨s2,hs2'⟩ :∃s2,s2=strOfNums ((digL hi).map upC):=⟨_,rfl⟩;rw [<- hs2'] at hx2 HS2 z2;have y4:¬9223372036854775807<S1.size+4:=by omega
      have y5:¬9223372036854775807<S1.size+4+s2.size:=by omega
      have y6:¬9223372036854775807<S1.size+4+s2.size+1:=by omega
      clear hq hs2' HX2
      go_quiet (fail)
      have hB02q:Below w.heap.size w (w2.drewN nq):=below_drewN' hB02 nq;have hsq:w.heap.size<=(w2.drewN nq).heap.size:=hB02q.size;have f1:(w2.drewN nq).cell? ⟨g,off+k*2+1,none⟩=some (.int .i64 (hi:Int)):=(hB02q.cell (p:=⟨g,_,none⟩) hg).trans c1
      go_wp2_with fail
      refine (hx2 _).mono ?_;rintro e w5 ⟨rfl,hB5⟩;have hB05:Below w.heap.size w w5:=hB02q.trans (hB5.mono hsq);clear hx2 f1;go_wp2
      go_roundw
      case rel=>exact ⟨k+1,_,by omega,rfl,by go_num,HS2,hB05⟩
      case measure=>simp [intOf];omega
  · obtain rfl:k=l.length:=by omega
    have hid:decide ((l.length:Int)<(l.length:Int))=false:=by simp
    have y1:¬9223372036854775807<S.size+1:=by omega
    have HE:Hid (S++⟨#[93]⟩=strOfNums (setL l)):=by
     show _=_;rw [HS.out,str_end,List.take_length];rfl
    go_wp2;go_ret;exact ⟨by rw [<- HE.out];rfl,hB⟩
def SetSrc (w:World) (sv:Value) (st:Sts):Prop :=
 ∃a cap,sv = .slice a st.length cap/\st.length<=cap/\∀i,(h:i<st.length)->∃g off x,a=some ⟨g,off,none⟩/\g<w.heap.size/\w.cell? ⟨g,off+i,none⟩=some x/\RngSrc w x st[i]
theorem SetSrc.in {w:World} {sv:Value} {st:Sts} (h:SetSrc w sv st):SetIn w sv st:=by
 obtain ⟨a,cap,e,hc,hi⟩:=h;refine ⟨a,cap,e,hc,λi hlt => ?_⟩;obtain ⟨g,off,x,h1,h2,h3,h4⟩:=hi i hlt;exact ⟨g,off,x,h1,h2,h3,h4.1⟩
theorem SetSrc.below {w w':World} {v:Value} {st:Sts} (h:SetSrc w v st) (hb:Below w.heap.size w w'):SetSrc w' v st:=by
 obtain ⟨a,cap,rfl,hc,hi⟩:=h;refine ⟨a,cap,rfl,hc,λi hlt => ?_⟩;obtain ⟨g,off,x,rfl,hg,h0,h1⟩:=hi i hlt;exact ⟨g,off,x,rfl,Nat.lt_of_lt_of_le hg hb.size,(hb.cell (p:=⟨g,_,none⟩) hg).trans h0,h1.below hb⟩
theorem PrgAt.src {base:Nat} {w:World} {sv rv:Value} {rs:List RlV} {st:Sts} (h:PrgAt base w sv rv rs st):SetSrc w sv st:=by
 obtain ⟨⟨vs,e6,e6'⟩,_⟩:=h;have e6'':=e6;rcases e6.2 with ⟨rfl,h0⟩ | ⟨g,cap,cur,rfl,hb,hg,hc2,hm,hs,ht⟩
 · obtain rfl:st=[]:=List.length_eq_zero_iff.1 h0;exact ⟨none,0,rfl,by simp,λi hi=>(by cases hi)⟩
 · refine ⟨_,cap,rfl,hc2,λi hi => ?_⟩;obtain ⟨x,q1,q2,q3⟩:=e6'.2 i hi;have:=e6''.cells (g:=g) rfl i x q1;rw [add_lit'] at this;exact ⟨g,0,x,rfl,(Array.getElem?_eq_some_iff.1 hg).1,this,q2.src (λk hk=>hk)⟩
def Dp:Nat->List Nd->Prop
 | 0,l=>l=[]
 | d+1,l=>l.length<=3100/\∀x∈l,Dp d x.kids
def Sz:Nat->Nd->Nat
 | 0,_=>1
 | d+1,n=>1+(n.kids.map (Sz d)).sum
def FewOk (st:Sts) (rl:List Rl):Prop:=st.length<=70/\rl.length<=70/\(∀s∈st,s.length<=3100)/\∀x∈rl,(Dp 120 x.l.kids/\Sz 120 x.l<3100)/\Dp 120 x.r.kids/\Sz 120 x.r<3100
def inBr (p w:Int):Bool:=p==2||(p==0&&w != 2)
def hasP (k:Int) (n:Nat):Bool:=if k=0 then n != 1 else if k=2 then decide (2<=n) else signK k&&n==1
def sgs (sg:Nat) (k:Int):Nat:=if signK k=true then sg+1 else 0
def brN (p w:Int):Nat:=if inBr p w=true then 1 else 0
def okH (sg:Nat) (n:Nd):Bool:=n.s==0&&decide (sgs sg n.k<=3)&&hasP n.k n.kids.length
def okN:Nat->Nat->Nat->Nd->Bool
 | 0,dp,sg,n=>if n.k=1 then n.kids.isEmpty else okH sg n
 | f+1,dp,sg,n=>if n.k=1 then n.kids.isEmpty else okH sg n&&n.kids.all λx=>decide (dp+brN x.k n.k<=20)&&okN f (dp+brN x.k n.k) (sgs sg n.k) x
def meetS (m:Nat) (s:Int):Option Nat:=if s=(m:Int) then some (m+1) else if 0<=s/\s<(m:Int) then some m else none
def metL (g:Nat->Nd->Option Nat):Nat->List Nd->Option Nat
 | m,[]=>some m
 | m,x::l=>match g m x with
  | none=>none
  | some m'=>metL g m' l
def metN:Nat->Nat->Nd->Option Nat
 | 0,m,n=>if n.k=1 then meetS m n.s else some m
 | f+1,m,n=>if n.k=1 then meetS m n.s else metL (metN f) m n.kids
def mayK (f:Nat) (dp sg:Nat) (w:Int):Nat->List Nd->Option Nat
 | m,[]=>some m
 | m,x::l=>if decide (dp+brN x.k w<=20)&&okN f (dp+brN x.k w) sg x then (match metN f m x with
  | none=>none
  | some m'=>mayK f dp sg w m' l) else none
def mayN (f dp sg m:Nat) (n:Nd):Option Nat:=if okN f dp sg n=true then metN f m n else none
theorem mayK_eq (f dp sg:Nat) (w:Int) (m:Nat) (l:List Nd):mayK f dp sg w m l=if (l.all λx=>decide (dp+brN x.k w<=20)&&okN f (dp+brN x.k w) sg x)=true then metL (metN f) m l else none:=by
 induction l generalizing m with
 | nil=>rfl
 | cons x l ih =>
  unfold mayK metL;by_cases h:(decide (dp+brN x.k w<=20)&&okN f (dp+brN x.k w) sg x)=true
  · simp only [List.all_cons,h,if_true,Bool.true_and]
    split
    · simp
    · rename_i m' _;exact ih m'
  · have h':=Bool.eq_false_iff.2 h;simp only [List.all_cons,h',Bool.false_and,Bool.false_eq_true,if_false]
theorem mayN_zero {dp sg m:Nat} {n:Nd} (h:n.kids=[]):mayN 0 dp sg m n=if n.k=1 then meetS m n.s else if okH sg n=true then some m else none:=by
 unfold mayN okN metN;by_cases q:n.k=1
 · simp [q,h]
 · simp [q]
theorem mayN_set {f dp sg m:Nat} {n:Nd} (h:n.k=1):mayN f dp sg m n=if n.kids=[] then meetS m n.s else none:=by
 unfold mayN;cases f<;>simp [okN,metN,h]
theorem mayN_bad {f dp sg m:Nat} {n:Nd} (h:n.k≠1) (h2:okH sg n=false):mayN f dp sg m n=none:=by
 unfold mayN;cases f<;>simp [okN,h,h2]
theorem mayN_kids {f dp sg m:Nat} {n:Nd} (h:n.k≠1) (h2:okH sg n=true):mayN (f+1) dp sg m n=mayK f dp (sgs sg n.k) n.k m n.kids:=by
 rw [mayK_eq];unfold mayN;simp only [okN,metN,h,if_false,h2,Bool.true_and]
theorem mayK_cons {f dp sg:Nat} {w:Int} {m:Nat} {x:Nd} {l:List Nd}:mayK f dp sg w m (x::l)=if 20<dp+brN x.k w then none else (mayN f (dp+brN x.k w) sg m x).bind λm'=>mayK f dp sg w m' l:=by
 rw [mayK];unfold mayN;by_cases h:20<dp+brN x.k w
 · have h2:decide (dp+brN x.k w<=20)=false:=by simp;omega
   rw [h2,if_pos h];rfl
 · have h2:decide (dp+brN x.k w<=20)=true:=by simp;omega
   rw [h2,if_neg h,Bool.true_and];cases okN f (dp+brN x.k w) sg x with
   | false=>rfl
   | true =>
    simp only [if_true];cases metN f m x<;>rfl
def mayR:Nat->List Rl->Option Nat
 | m,[]=>some m
 | m,x::l=>match mayN 120 0 0 m x.l with
  | none=>none
  | some m1=>match mayN 120 0 0 m1 x.r with
   | none=>none
   | some m2=>mayR m2 l
def isSetB (s:List Rg):Bool:=s.all (λr=>decide (0<=r.lo/\r.lo<=r.hi/\r.hi<1114112))&&sameS (mkS s) s
def setsF:Nat->Sts->Bool
 | 0,_=>true
 | k+1,st=>setsF k st&&(match st[k]? with
  | none=>true
  | some s=>isSetB s && !((st.take k).any λx=>sameS x s))
def rightB (st:Sts) (rl:List Rl):Bool:=decide (st.length<=60)&&decide (rl.length<=64)&&setsF st.length st&&(mayR 0 rl==some st.length)
theorem fits_iff {s:List Rg}:(s.all λr=>decide (0<=r.lo/\r.lo<=r.hi/\r.hi<1114112))=true↔Fits s:=by
 simp only [List.all_eq_true,decide_eq_true_eq,Fits];constructor
 · intro h r hr;have:=h r hr;omega
 · intro h r hr;have:=h r hr;omega
theorem isSetB_bad {s:List Rg} (h:¬Fits s):isSetB s=false:=by
 unfold isSetB;cases q:(s.all λr=>decide (0<=r.lo/\r.lo<=r.hi/\r.hi<1114112)) with
 | false=>rfl
 | true=>exact absurd (fits_iff.1 q) h
theorem isSetB_fit {s:List Rg} (h:Fits s):isSetB s=sameS (mkS s) s:=by
 unfold isSetB;rw [fits_iff.2 h,Bool.true_and]
theorem setsF_false {k:Nat} {st:Sts} (h:setsF k st=false):∀n,setsF (k+n) st=false
 | 0=>h
 | n+1=>by
  show (setsF (k+n) st&&_)=false;rw [setsF_false h n];rfl
theorem setsF_at {k:Nat} {st:Sts} (hk:k<st.length) (h:setsF k st=true):setsF (k+1) st=(isSetB st[k] && !((st.take k).any λx=>sameS x st[k])):=by
 show (setsF k st&&_)=_;rw [h,Bool.true_and,List.getElem?_eq_getElem hk]
theorem setsF_end {k:Nat} {st:Sts} (hk:k<st.length) (h:setsF (k+1) st=false):setsF st.length st=false:=by
 have:=setsF_false h (st.length-(k+1));rw [show k+1+(st.length-(k+1))=st.length by omega] at this;exact this
end Go.Proofs.YtfdjchnckjgapaaGreatDoor
namespace Go.Proofs.YtfdjchnckjgapaaGreatDoor
open Go.RowKit Go.Shelf Go.Lib S1
set_option linter.unusedVariables false
section
variable {P : Program} (w : World)
end
theorem strNums_size (s:List Int):(strOfNums s).size=s.length:=by
 have:(strOfNums s).size=(strOfNums s).data.size:=rfl;rw [this];simp [strOfNums]
end Go.Proofs.YtfdjchnckjgapaaGreatDoor
namespace Go.Proofs.YtfdjchnckjgapaaGreatDoor
open Go.RowKit Go.Shelf S1
set_option linter.unusedVariables false
def brT (b:Bool) (t:List Int):List Int:=if b=true then 40::(t++[41]) else t
def barT (fst:Bool) (k:Int):List Int:=if fst=false/\k=2 then [124] else []
def txK (g:Nd->List Int) (k:Int):Bool->List Nd->List Int
 | _,[]=>[]
 | fst,x::l=>barT fst k++(brT (inBr x.k k) (g x)++txK g k false l)
def headT (S:List (List Int)) (n:Nd):List Int:=if n.k=1 then S.getD n.s.toNat [] else []
def txN:Nat->List (List Int)->Nd->List Int
 | 0,S,n=>headT S n++signT n.k
 | f+1,S,n=>headT S n++(txK (txN f S) n.k true n.kids++signT n.k)
def SIn:Nat->Nat->Nd->Prop
 | 0,b,n=>n.k=1->0<=n.s/\n.s<(b:Int)
 | f+1,b,n=>(n.k=1->0<=n.s/\n.s<(b:Int))/\∀x∈n.kids,SIn f b x
theorem SIn.here {f b:Nat} {n:Nd} (h:SIn f b n):n.k=1->0<=n.s/\n.s<(b:Int):=by
 cases f with
 | zero=>exact h
 | succ f=>exact h.1
theorem SIn.more:∀ {f b c:Nat} {n:Nd},SIn f b n->b<=c->SIn f c n
 | 0,b,c,n,h,hc=>λhk=>by have:=h hk;omega
 | f+1,b,c,n,h,hc=>⟨λhk=>by have:=h.1 hk;omega,λx hx=>(h.2 x hx).more hc⟩
theorem meetS_in {m m':Nat} {s:Int} (h:meetS m s=some m'):(0<=s/\s<(m':Int))/\m<=m':=by
 unfold meetS at h
 split at h
 · cases h;omega
 · split at h
   · cases h;omega
   · cases h
theorem mayN_in:∀ {f dp sg m:Nat} {n:Nd} {m':Nat},Dp f n.kids->mayN f dp sg m n=some m'->SIn f m' n/\m<=m'
 | 0,dp,sg,m,n,m',hd,h=>by
  have h0:n.kids=[]:=hd;rw [mayN_zero h0] at h
  split at h
  · obtain ⟨h1,h2⟩:=meetS_in h;exact ⟨λ_=>h1,h2⟩
  · rename_i hk
    split at h
    · cases h;exact ⟨λq=>absurd q hk,Nat.le_refl _⟩
    · cases h
 | f+1,dp,sg,m,n,m',hd,h=>by
  by_cases hk:n.k=1
  · rw [mayN_set hk] at h
    split at h
    · rename_i h0;obtain ⟨h1,h2⟩:=meetS_in h;exact ⟨⟨λ_=>h1,λx hx=>by rw [h0] at hx;cases hx⟩,h2⟩
    · cases h
  · cases ho:okH sg n with
    | false=>rw [mayN_bad hk ho] at h;cases h
    | true =>
     rw [mayN_kids hk ho] at h;have key:∀ {l:List Nd} {m m':Nat},(∀x∈l,Dp f x.kids)->mayK f dp (sgs sg n.k) n.k m l=some m'->(∀x∈l,SIn f m' x)/\m<=m':=by
      intro l
      induction l with
      | nil=>intro m m' _ h;cases h;exact ⟨λx hx=>(by cases hx),Nat.le_refl _⟩
      | cons x l ih =>
       intro m m' hl h;rw [mayK_cons] at h
       split at h
       · cases h
       · rw [Option.bind_eq_some_iff] at h;obtain ⟨m1,h1,h2⟩:=h;obtain ⟨a1,a2⟩:=mayN_in (hl x (by simp)) h1;obtain ⟨b1,b2⟩:=ih (λy hy=>hl y (by simp [hy])) h2;refine ⟨λy hy => ?_,by omega⟩;rcases List.mem_cons.1 hy with rfl | hy
         · exact a1.more b2
         · exact b1 y hy
     obtain ⟨k1,k2⟩:=key hd.2 h;exact ⟨⟨λq=>absurd q hk,k1⟩,k2⟩
theorem mayR_in:∀ {rl:List Rl} {m m':Nat},(∀x∈rl,Dp 120 x.l.kids/\Dp 120 x.r.kids)->mayR m rl=some m'->(∀x∈rl,SIn 120 m' x.l/\SIn 120 m' x.r)/\m<=m'
 | [],m,m',_,h=>by cases h;exact ⟨λx hx=>(by cases hx),Nat.le_refl _⟩
 | x::l,m,m',hd,h=>by
  rw [mayR] at h
  split at h
  · cases h
  · rename_i m1 h1
    split at h
    · cases h
    · rename_i m2 h2;obtain ⟨a1,a2⟩:=mayN_in (hd x (by simp)).1 h1;obtain ⟨b1,b2⟩:=mayN_in (hd x (by simp)).2 h2;obtain ⟨c1,c2⟩:=mayR_in (λy hy=>hd y (by simp [hy])) h;refine ⟨λy hy => ?_,by omega⟩;rcases List.mem_cons.1 hy with rfl | hy
      · exact ⟨a1.more (by omega),b1.more c2⟩
      · exact c1 y hy
theorem signT_len (k:Int):(signT k).length<=1:=by
 unfold signT
 repeat' split
 all_goals simp
theorem headT_len {S:List (List Int)} (hS:∀s∈S,s.length<=69900) (n:Nd):(headT S n).length<=69900:=by
 unfold headT
 split
 · rw [List.getD_eq_getElem?_getD];cases h:S[n.s.toNat]? with
   | none=>simp
   | some s=>exact hS s (List.mem_of_getElem? h)
 · simp
theorem txK_len {g:Nd->List Int} {z:Nd->Nat} {k:Int}:∀ {l:List Nd} {fst:Bool},(∀x∈l,(g x).length+3<=z x*70000)->(txK g k fst l).length<=(l.map z).sum*70000
 | [],_,_=>by simp [txK]
 | x::l,fst,h=>by
  have h1:=h x (by simp);have h2:=txK_len (k:=k) (l:=l) (fst:=false) (λy hy=>h y (by simp [hy]));have h3:(barT fst k).length<=1:=by unfold barT;split<;>simp
  have h4:(brT (inBr x.k k) (g x)).length<=(g x).length+2:=by unfold brT;split<;>simp
  unfold txK;simp only [List.length_append,List.map_cons,List.sum_cons,Nat.add_mul];omega
theorem txN_len {S:List (List Int)} (hS:∀s∈S,s.length<=69900):∀(f:Nat) (n:Nd),(txN f S n).length+3<=Sz f n*70000
 | 0,n=>by
  have h1:=headT_len hS n;have h2:=signT_len n.k;unfold txN Sz;simp only [List.length_append];omega
 | f+1,n=>by
  have h1:=headT_len hS n;have h2:=signT_len n.k;have h3:=txK_len (g:=txN f S) (z:=Sz f) (k:=n.k) (l:=n.kids) (fst:=true) (λx _=>txN_len hS f x);unfold txN Sz;simp only [List.length_append,Nat.add_mul];omega
theorem signT_byt (k:Int):Byt (signT k):=by
 intro c hc;unfold signT at hc
 repeat' split at hc
 all_goals simp at hc
 all_goals omega
def kwT (b:Bool):List Int:=if b=true then [98,114,101,97,107,32] else [107,101,101,112,32]
def rlT (b:Bool) (l r:List Int):List Int:=kwT b++(l++(47::(r++[59,10])))
def progT (S:List (List Int)) (rl:List Rl):List Int:=rl.flatMap λx=>rlT x.b (txN 120 S x.l) (txN 120 S x.r)
theorem setL_len (l:List Rg):(setL l).length<=21*l.length+2:=by
 have:=setLs_len l;unfold setL;simp;omega
theorem setsF_all {k:Nat} {st:Sts} (h:setsF k st=true):∀i,(hi:i<st.length)->i<k->isSetB st[i]=true:=by
 induction k with
 | zero=>intro i _ h;omega
 | succ k ih =>
  intro i hi hk;have h':(setsF k st&&(match st[k]? with
   | none=>true
   | some s=>isSetB s && !((st.take k).any λx=>sameS x s)))=true:=h
  rw [Bool.and_eq_true] at h';by_cases q:i<k
  · exact ih h'.1 i hi q
  · obtain rfl:i=k:=by omega
    have h2:=h'.2;rw [List.getElem?_eq_getElem hi] at h2;simp only [Bool.and_eq_true] at h2;exact h2.1
theorem isSetB_fits {s:List Rg} (h:isSetB s=true):Fits s:=by
 unfold isSetB at h;rw [Bool.and_eq_true] at h;exact fits_iff.1 h.1
theorem rightB_parts {st:Sts} {rl:List Rl} (h:rightB st rl=true):st.length<=60/\rl.length<=64/\(∀s∈st,isSetB s=true)/\mayR 0 rl=some st.length:=by
 unfold rightB at h;simp only [Bool.and_eq_true,decide_eq_true_eq,beq_iff_eq] at h;refine ⟨h.1.1.1,h.1.1.2,λs hs => ?_,h.2⟩;obtain ⟨i,hi,rfl⟩:=List.getElem_of_mem hs;exact setsF_all h.1.2 i hi hi
theorem progT_cons (S:List (List Int)) (x:Rl) (l:List Rl):progT S (x::l)=rlT x.b (txN 120 S x.l) (txN 120 S x.r)++progT S l:=rfl
theorem rlT_len (b:Bool) (l r:List Int):(rlT b l r).length<=l.length+r.length+9:=by
 unfold rlT kwT;cases b<;>simp<;>omega
end Go.Proofs.YtfdjchnckjgapaaGreatDoor
