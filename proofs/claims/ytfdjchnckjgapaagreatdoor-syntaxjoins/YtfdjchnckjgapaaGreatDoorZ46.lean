/-
  RTxP
-/
import Derived.Test.YtfdjchnckjgapaaGreatDoorZ43
import Derived.Test.YtfdjchnckjgapaaGreatDoorZ42
import Derived.Deep.RegionHeld3
namespace Go.Proofs.YtfdjchnckjgapaaGreatDoor
set_option maxHeartbeats 16000000
set_option maxRecDepth 100000
open Go.RowKit Go.Shelf S1
set_option linter.unusedVariables false
theorem str_size (l:List Int):(strOfNums l).size=l.length:=strNums_size l
theorem text_body (n:Nd) (za:Option Addr) (ca:Nat) (f:Nat) (S:List (List Int)) (sv:Value) (t:List Int) (hlen:n.kids.length<=3100) (w:World) (hk0:n.k=1->n.kids=[]) (ht:t=headT S n++(txK (txN f S) n.k true n.kids++signT n.k)) (htl:t.length<=220000000) (htk:∀x∈n.kids,(txN f S x).length<=220000000)
 (hset:n.k=1->∃(gs os cs si sl:Nat) (xv:Value),sv = .slice (some ⟨gs,os,none⟩) sl cs/\n.s=(si:Int)/\si<sl/\sl<=cs/\gs<w.heap.size/\w.cell? ⟨gs,os+si,none⟩=some xv/\(∃a m c,xv = .slice a m c)/\∀W,Below w.heap.size w W->Calls Tryz.prog 57 #[xv] W λe w'=>e = .returned (.string (strOfNums (headT S n)))/\Below W.heap.size W w')
 (HR:∀i,(h:i<n.kids.length)->n.kids.length<=ca/\∃ga oa xa ka,za=some ⟨ga,oa,none⟩/\ga<w.heap.size/\w.cell? ⟨ga,oa+i*3,none⟩=some (.int .i64 n.kids[i].k)/\w.cell? ⟨ga,oa+i*3+1,none⟩=some (.int .i64 n.kids[i].s)/\w.cell? ⟨ga,oa+i*3+2,none⟩=some (.slice xa n.kids[i].kids.length ka) /\
  (∀W,Below w.heap.size w W->Calls Tryz.prog 28 #[.agg #[.int .i64 n.kids[i].k,.int .i64 n.kids[i].s,.slice xa n.kids[i].kids.length ka],sv] W λe w''=>e = .returned (.string (strOfNums (txN f S n.kids[i])))/\Below W.heap.size W w'')) :
 Calls Tryz.prog 28 #[.agg #[.int .i64 n.k,.int .i64 n.s,.slice za n.kids.length ca],sv] w λe w'=>e = .returned (.string (strOfNums t))/\Below w.heap.size w w':=by
 have HHR:Hid (∀i,(h:i<n.kids.length)->n.kids.length<=ca/\∃(ga oa:Nat) (xa:Option Addr) (ka:Nat) (yk ys:Int) (yl:Nat),yk=n.kids[i].k/\za=some ⟨ga,oa,none⟩/\ga<w.heap.size/\w.cell? ⟨ga,oa+i*3,none⟩=some (.int .i64 yk)/\w.cell? ⟨ga,oa+i*3+1,none⟩=some (.int .i64 ys)/\w.cell? ⟨ga,oa+i*3+2,none⟩=some (.slice xa yl ka) /\
  (∀W,Below w.heap.size w W->Calls Tryz.prog 28 #[.agg #[.int .i64 yk,.int .i64 ys,.slice xa yl ka],sv] W λe w''=>e = .returned (.string (strOfNums (txN f S n.kids[i])))/\Below W.heap.size W w'')):=λi hi=>by
  obtain ⟨h1,ga,oa,xa,ka,h⟩:=HR i hi;exact ⟨h1,ga,oa,xa,ka,_,_,_,rfl,h⟩
 have HT:Hid (t=headT S n++(txK (txN f S) n.k true n.kids++signT n.k)):=ht;have HTL:Hid (t.length<=220000000):=htl;have HTK:Hid (∀x∈n.kids,(txN f S x).length<=220000000):=htk;have HK0:Hid (n.k=1->n.kids=[]):=hk0;obtain ⟨len,hle⟩ :∃len,len=n.kids.length:=⟨_,rfl⟩;obtain ⟨nk,hnk⟩ :∃x,x=n.k:=⟨_,rfl⟩;obtain ⟨ns,hns⟩ :∃x,x=n.s:=⟨_,rfl⟩;rw [<- hle,<- hnk,<- hns];have HLEN:Hid (len=n.kids.length/\nk=n.k/\ns=n.s):=⟨hle,hnk,hns⟩;have hlen':len<=3100:=by omega
 have HB0:Hid (Below w.heap.size w (w.alloc (.cells #[.int .i64 nk,.int .i64 ns,.slice za len ca] 39))):=below_alloc _ _;have HEA:Hid ((w.alloc (.cells #[.int .i64 nk,.int .i64 ns,.slice za len ca] 39)).heap[w.heap.size]? = some (.cells #[.int .i64 nk,.int .i64 ns,.slice za len ca] 39 (0,0))):=heap_new' w _;have HSET:Hid (nk=1->∃(gs os cs si sl:Nat) (xv:Value),sv = .slice (some ⟨gs,os,none⟩) sl cs/\ns=(si:Int)/\si<sl/\sl<=cs/\gs<w.heap.size/\w.cell? ⟨gs,os+si,none⟩=some xv/\(∃a m c,xv = .slice a m c)/\∀W,Below w.heap.size w W->Calls Tryz.prog 57 #[xv] W λe w'=>e = .returned (.string (strOfNums (headT S n)))/\Below W.heap.size W w'):=by
  rw [hnk,hns];exact hset
 clear HR ht htl htk hk0 hset hle hnk hns hlen;by_cases hk1:nk=1
 · have hk1':(nk==1)=true:=by simpa using hk1
   have HE:Hid (t=headT S n):=by
    show _=_;rw [HT.out,HK0.out (by rw [<- HLEN.out.2.1];exact hk1)];have:signT n.k=[]:=by rw [<- HLEN.out.2.1,hk1];rfl
    rw [this];simp [txK]
   obtain ⟨gs,os,cs,si,sl,xv,rfl,rfl,hsl,hcs,hgs,hx,⟨xa,xm,xc,rfl⟩,hcall⟩:=HSET.out hk1;have hx1:(w.alloc (.cells #[.int .i64 nk,.int .i64 (si:Int),.slice za len ca] 39)).cell? ⟨gs,os+si,none⟩=some (.slice xa xm xc):=(HB0.out.cell (p:=⟨gs,_,none⟩) hgs).trans hx;have hcl:=hcall (w.alloc (.cells #[.int .i64 nk,.int .i64 (si:Int),.slice za len ca] 39)) HB0.out;have hsi0:(0:Int)<=(si:Int):=by omega
   have hsi1:(si:Int)<(sl:Int):=by omega
   obtain ⟨str,hstr⟩ :∃x,x=strOfNums (headT S n):=⟨_,rfl⟩;rw [<- hstr] at hcl;have HST:Hid (str=strOfNums t):=by show _=_;rw [hstr,HE.out]
   clear hk1 hcall hstr HSET;go_enter Tryz.func28,Tryz.ntmps28
   go_wp2_with fail
   refine hcl.mono ?_;rintro e w1 ⟨rfl,hB1⟩;have hBB:=below_after HB0.out hB1;clear hcl;go_wp2;go_ret;rw [<- HST.out];exact ⟨rfl,hBB⟩
 · have hk1':(nk==1)=false:=by simpa using hk1
   have HTc:Hid (t=[]++(txK (txN f S) nk true n.kids++signT nk)):=by
    show _=_;rw [HT.out,HLEN.out.2.1];unfold headT;rw [if_neg (by rw [<- HLEN.out.2.1];exact hk1)]
   clear hk1 HSET;go_enter Tryz.func28,Tryz.ntmps28;go_wp2
   go_loopw [5,6] (λx5 x6 wr=>∃(j:Nat) (cur:List Int) (str:ByteArray),j<=len/\x6 = .int .i64 (j:Int)/\x5 = .string str/\Hid (str=strOfNums cur)/\Hid (t=cur++(txK (txN f S) nk (decide (j=0)) (n.kids.drop j)++signT nk))/\wr.heap[w.heap.size]? = some (.cells #[.int .i64 nk,.int .i64 ns,.slice za len ca] 39 (0,0))/\Below w.heap.size w wr) (λ_ x6 _=>len-(intOf x6).toNat)
   case atStart=>exact ⟨0,[],_,Nat.zero_le _,rfl,rfl,(show _=_ by rfl),(show _=_ by rw [List.drop_zero];exact HTc.out),HEA.out,HB0.out⟩
   case round =>
    obtain ⟨j,cur,str,hj,rfl,rfl,HST,HTJ,hEA,hB⟩:=hrel;have hlt:w.heap.size<wr.heap.size:=(Array.getElem?_eq_some_iff.1 hEA).1;have a0:wr.cell? ⟨w.heap.size,0,none⟩=some (.int .i64 nk):=cell_of_row _ _ 0 _ _ _ hEA;have a1:wr.cell? ⟨w.heap.size,1,none⟩=some (.int .i64 ns):=cell_of_row _ _ 1 _ _ _ hEA;have a2:wr.cell? ⟨w.heap.size,2,none⟩=some (.slice za len ca):=cell_of_row _ _ 2 _ _ _ hEA;have HEA':Hid (wr.heap[w.heap.size]? = some (.cells #[.int .i64 nk,.int .i64 ns,.slice za len ca] 39 (0,0))):=hEA;have HCL:Hid (cur.length<=220000000):=by
     have h5:=HTJ.out;have h6:=HTL.out;rw [h5,List.length_append] at h6;show _<=_;omega
    have hssz:str.size<=220000000:=by rw [HST.out,str_size];exact HCL.out
    clear hEA;by_cases hjl:j<len
    · have hjn:j<n.kids.length:=by rw [<- HLEN.out.1];exact hjl
      obtain ⟨hca,ga,oa,xa,ka,yk,ys,yl,hyk,rfl,hga,p0,p1,p2,hcall⟩:=HHR.out j hjn;have r0:wr.cell? ⟨ga,oa+j*3,none⟩=some (.int .i64 yk):=(hB.cell (p:=⟨ga,_,none⟩) hga).trans p0;have r1:wr.cell? ⟨ga,oa+j*3+1,none⟩=some (.int .i64 ys):=(hB.cell (p:=⟨ga,_,none⟩) hga).trans p1;have r2:wr.cell? ⟨ga,oa+j*3+2,none⟩=some (.slice xa yl ka):=(hB.cell (p:=⟨ga,_,none⟩) hga).trans p2;have hga':ga<wr.heap.size:=Nat.lt_of_lt_of_le hga hB.size;have hj0:(0:Int)<=(j:Int):=by omega
      have hj1:(j:Int)<(len:Int):=by omega
      have hca2:len<=ca:=by rw [HLEN.out.1];exact hca
      have ed:n.kids.drop j=n.kids[j]::n.kids.drop (j+1):=List.drop_eq_getElem_cons hjn;have HTN:Hid (t=cur++barT (decide (j=0)) nk++brT (inBr yk nk) (txN f S n.kids[j])++(txK (txN f S) nk (decide (j+1=0)) (n.kids.drop (j+1))++signT nk)):=by
       have h5:=HTJ.out;rw [ed,txK] at h5;show _=_;rw [h5,hyk];simp [List.append_assoc]
      have hcl:=hcall wr hB;obtain ⟨xt,hxt⟩ :∃x,x=txN f S n.kids[j]:=⟨_,rfl⟩;rw [<- hxt] at hcl HTN;obtain ⟨xs,hxs⟩ :∃x,x=strOfNums xt:=⟨_,rfl⟩;rw [<- hxs] at hcl;have hxsz:xs.size<=220000000:=by rw [hxs,str_size,hxt];exact HTK.out _ (List.getElem_mem hjn)
      have HXS:Hid (xs=strOfNums xt):=hxs;have HKP:Hid (∀W,Below wr.heap.size wr W->W.cell? ⟨w.heap.size,0,none⟩=some (.int .i64 nk)/\W.cell? ⟨w.heap.size,1,none⟩=some (.int .i64 ns)/\W.cell? ⟨w.heap.size,2,none⟩=some (.slice (some ⟨ga,oa,none⟩) len ca)/\W.cell? ⟨ga,oa+j*3,none⟩=some (.int .i64 yk)/\W.cell? ⟨ga,oa+j*3+1,none⟩=some (.int .i64 ys)/\W.cell? ⟨ga,oa+j*3+2,none⟩=some (.slice xa yl ka)):=λW hk=>⟨(hk.cell (p:=⟨_,_,none⟩) hlt).trans a0,(hk.cell (p:=⟨_,_,none⟩) hlt).trans a1,(hk.cell (p:=⟨_,_,none⟩) hlt).trans a2,(hk.cell (p:=⟨ga,_,none⟩) hga').trans r0,(hk.cell (p:=⟨ga,_,none⟩) hga').trans r1,(hk.cell (p:=⟨ga,_,none⟩) hga').trans r2⟩;have HOP:Hid (∀W,Calls Tryz.prog 58 #[.agg #[.int .i64 nk,.int .i64 ns,.slice (some ⟨ga,oa,none⟩) len ca],.agg #[.int .i64 yk,.int .i64 ys,.slice xa yl ka]] W λe w'=>e = .returned (.bool (inBr yk nk))/\Below W.heap.size W w'):=λW=>open_any8 nk ns (some ⟨ga,oa,none⟩) len ca yk ys xa yl ka W;clear p0 p1 p2 hcall hca ed hyk hxt hxs HTJ
      go_wp2_with fail
      refine hcl.mono ?_;rintro e w2 ⟨rfl,hB2⟩;clear hcl;obtain ⟨b0,b1,b2,s0,s1,s2⟩:=HKP.out _ hB2;have hsz2:=hB2.size;have hga2:ga<w2.heap.size:=by omega
      have hlt2:w.heap.size<w2.heap.size:=by omega
      have HK2:Hid (∀W,Below (w2.drewN 1).heap.size (w2.drewN 1) W->W.cell? ⟨w.heap.size,0,none⟩=some (.int .i64 nk)/\W.cell? ⟨w.heap.size,1,none⟩=some (.int .i64 ns)/\W.cell? ⟨w.heap.size,2,none⟩=some (.slice (some ⟨ga,oa,none⟩) len ca)/\W.cell? ⟨ga,oa+j*3,none⟩=some (.int .i64 yk)/\W.cell? ⟨ga,oa+j*3+1,none⟩=some (.int .i64 ys)/\W.cell? ⟨ga,oa+j*3+2,none⟩=some (.slice xa yl ka)):=λW hW=>HKP.out W (below_after hB2 ((below_drewN' (Below.refl _ _) 1).trans hW));have HB2:Hid (Below wr.heap.size wr w2):=hB2;clear hB2 a0 a1 a2 r0 r1 r2 hsz2;cases hbr:inBr yk nk with
      | false =>
       rw [hbr] at HOP HTN;clear hbr;go_wp2
       go_region_held3 (λw'=>w'.cell? ⟨w.heap.size,0,none⟩=some (.int .i64 nk)/\w'.cell? ⟨w.heap.size,1,none⟩=some (.int .i64 ns)/\w'.cell? ⟨w.heap.size,2,none⟩=some (.slice (some ⟨ga,oa,none⟩) len ca)/\w'.cell? ⟨ga,oa+j*3,none⟩=some (.int .i64 yk)/\w'.cell? ⟨ga,oa+j*3+1,none⟩=some (.int .i64 ys)/\w'.cell? ⟨ga,oa+j*3+2,none⟩=some (.slice xa yl ka)) (first | exact HK2.out _ hB1 | go_keep) ((go_at_call 58;refine (HOP.out _).mono ?_;rintro e w3 ⟨rfl,hB1⟩))
       have hk3:Below wr.heap.size wr w3:=below_after HB2.out ((below_drewN' (Below.refl _ _) 1).trans hB1);obtain ⟨c0,c1,c2,c3,c4,c5⟩:=HKP.out _ hk3;have hs3:=hk3.size;have hlt3:w.heap.size<w3.heap.size:=by omega
       have HB3:Hid (Below w.heap.size w w3):=below_after hB hk3;have HE3:Hid (w3.heap[w.heap.size]? = some (.cells #[.int .i64 nk,.int .i64 ns,.slice (some ⟨ga,oa,none⟩) len ca] 39 (0,0))):=(hk3.block _ hlt).trans HEA'.out;clear hB1 hk3 hs3 b0 b1 b2 s0 s1 s2 hga2 hlt2 c1 c2 c3 c4 c5;by_cases hb2:nk=2
       · have hbk:(nk==2)=true:=by simpa using hb2
         by_cases hb1:0<j
         · have HBT:Hid (barT (decide (j=0)) nk=[124]):=by
            have:decide (j=0)=false:=by simp;omega
            show _=_;simp [barT,this,hb2]
           have hbj:decide ((j:Int) > 0)=true:=by simp;omega
           clear hb2;have y3:¬9223372036854775807<1+xs.size:=by omega
           have y4:¬9223372036854775807<str.size+(1+xs.size):=by omega
           have HNE:Hid (str++(⟨#[124]⟩++xs)=strOfNums (cur++barT (decide (j=0)) nk++brT false xt)):=by
            show _=_;rw [HBT.out,HST.out,HXS.out];simp only [brT,Bool.false_eq_true,if_false];apply ByteArray.ext;simp [strOfNums]
           obtain ⟨nst,hnst⟩ :∃x,x=str++(⟨#[124]⟩++xs):=⟨_,rfl⟩;have HNS:Hid (nst=strOfNums (cur++barT (decide (j=0)) nk++brT false xt)):=by show _=_;rw [hnst];exact HNE.out
           clear HNE;go_wp2
           try rw [<- hnst]
           clear hnst
           go_roundw
           case rel=>exact ⟨j+1,_,_,by omega,by go_num,rfl,HNS,HTN,HE3.out,HB3.out⟩
           case measure=>simp [intOf];omega
         · have HBT:Hid (barT (decide (j=0)) nk=[]):=by
            have:decide (j=0)=true:=by simp;omega
            show _=_;simp [barT,this]
           have hbj:decide ((j:Int) > 0)=false:=by simp;omega
           clear hb2;have y4:¬9223372036854775807<str.size+xs.size:=by omega
           have HNE:Hid (str++xs=strOfNums (cur++barT (decide (j=0)) nk++brT false xt)):=by
            show _=_;rw [HBT.out,HST.out,HXS.out];simp only [brT,Bool.false_eq_true,if_false];apply ByteArray.ext;simp [strOfNums]
           obtain ⟨nst,hnst⟩ :∃x,x=str++xs:=⟨_,rfl⟩;have HNS:Hid (nst=strOfNums (cur++barT (decide (j=0)) nk++brT false xt)):=by show _=_;rw [hnst];exact HNE.out
           clear HNE;go_wp2
           try rw [<- hnst]
           clear hnst
           go_roundw
           case rel=>exact ⟨j+1,_,_,by omega,by go_num,rfl,HNS,HTN,HE3.out,HB3.out⟩
           case measure=>simp [intOf];omega
       · have hbk:(nk==2)=false:=by simpa using hb2
         have HBT:Hid (barT (decide (j=0)) nk=[]):=by
          show _=_;simp [barT,hb2]
         clear hb2;have y4:¬9223372036854775807<str.size+xs.size:=by omega
         have HNE:Hid (str++xs=strOfNums (cur++barT (decide (j=0)) nk++brT false xt)):=by
          show _=_;rw [HBT.out,HST.out,HXS.out];simp only [brT,Bool.false_eq_true,if_false];apply ByteArray.ext;simp [strOfNums]
         obtain ⟨nst,hnst⟩ :∃x,x=str++xs:=⟨_,rfl⟩;have HNS:Hid (nst=strOfNums (cur++barT (decide (j=0)) nk++brT false xt)):=by show _=_;rw [hnst];exact HNE.out
         clear HNE;go_wp2
         try rw [<- hnst]
         clear hnst
         go_roundw
         case rel=>exact ⟨j+1,_,_,by omega,by go_num,rfl,HNS,HTN,HE3.out,HB3.out⟩
         case measure=>simp [intOf];omega
      | true =>
       rw [hbr] at HOP HTN;clear hbr;go_wp2
       go_region_held3 (λw'=>w'.cell? ⟨w.heap.size,0,none⟩=some (.int .i64 nk)/\w'.cell? ⟨w.heap.size,1,none⟩=some (.int .i64 ns)/\w'.cell? ⟨w.heap.size,2,none⟩=some (.slice (some ⟨ga,oa,none⟩) len ca)/\w'.cell? ⟨ga,oa+j*3,none⟩=some (.int .i64 yk)/\w'.cell? ⟨ga,oa+j*3+1,none⟩=some (.int .i64 ys)/\w'.cell? ⟨ga,oa+j*3+2,none⟩=some (.slice xa yl ka)) (first | exact HK2.out _ hB1 | go_keep) ((go_at_call 58;refine (HOP.out _).mono ?_;rintro e w3 ⟨rfl,hB1⟩))
       have hk3:Below wr.heap.size wr w3:=below_after HB2.out ((below_drewN' (Below.refl _ _) 1).trans hB1);obtain ⟨c0,c1,c2,c3,c4,c5⟩:=HKP.out _ hk3;have hs3:=hk3.size;have hlt3:w.heap.size<w3.heap.size:=by omega
       have HB3:Hid (Below w.heap.size w w3):=below_after hB hk3;have HE3:Hid (w3.heap[w.heap.size]? = some (.cells #[.int .i64 nk,.int .i64 ns,.slice (some ⟨ga,oa,none⟩) len ca] 39 (0,0))):=(hk3.block _ hlt).trans HEA'.out;clear hB1 hk3 hs3 b0 b1 b2 s0 s1 s2 hga2 hlt2 c1 c2 c3 c4 c5;by_cases hb2:nk=2
       · have hbk:(nk==2)=true:=by simpa using hb2
         by_cases hb1:0<j
         · have HBT:Hid (barT (decide (j=0)) nk=[124]):=by
            have:decide (j=0)=false:=by simp;omega
            show _=_;simp [barT,this,hb2]
           have hbj:decide ((j:Int) > 0)=true:=by simp;omega
           clear hb2;have y1:¬9223372036854775807<1+xs.size:=by omega
           have y2:¬9223372036854775807<1+xs.size+1:=by omega
           have y3:¬9223372036854775807<1+(1+xs.size+1):=by omega
           have y4:¬9223372036854775807<str.size+(1+(1+xs.size+1)):=by omega
           have HNE:Hid (str++(⟨#[124]⟩++(⟨#[40]⟩++xs++⟨#[41]⟩))=strOfNums (cur++barT (decide (j=0)) nk++brT true xt)):=by
            show _=_;rw [HBT.out,HST.out,HXS.out];simp only [brT,if_true];apply ByteArray.ext;simp [strOfNums]
           obtain ⟨nst,hnst⟩ :∃x,x=str++(⟨#[124]⟩++(⟨#[40]⟩++xs++⟨#[41]⟩)):=⟨_,rfl⟩;have HNS:Hid (nst=strOfNums (cur++barT (decide (j=0)) nk++brT true xt)):=by show _=_;rw [hnst];exact HNE.out
           clear HNE;go_wp2
           try rw [<- hnst]
           clear hnst
           go_roundw
           case rel=>exact ⟨j+1,_,_,by omega,by go_num,rfl,HNS,HTN,HE3.out,HB3.out⟩
           case measure=>simp [intOf];omega
         · have HBT:Hid (barT (decide (j=0)) nk=[]):=by
            have:decide (j=0)=true:=by simp;omega
            show _=_;simp [barT,this]
           have hbj:decide ((j:Int) > 0)=false:=by simp;omega
           clear hb2;have y1:¬9223372036854775807<1+xs.size:=by omega
           have y2:¬9223372036854775807<1+xs.size+1:=by omega
           have y4:¬9223372036854775807<str.size+(1+xs.size+1):=by omega
           have HNE:Hid (str++(⟨#[40]⟩++xs++⟨#[41]⟩)=strOfNums (cur++barT (decide (j=0)) nk++brT true xt)):=by
            show _=_;rw [HBT.out,HST.out,HXS.out];simp only [brT,if_true];apply ByteArray.ext;simp [strOfNums]
           obtain ⟨nst,hnst⟩ :∃x,x=str++(⟨#[40]⟩++xs++⟨#[41]⟩):=⟨_,rfl⟩;have HNS:Hid (nst=strOfNums (cur++barT (decide (j=0)) nk++brT true xt)):=by show _=_;rw [hnst];exact HNE.out
           clear HNE;go_wp2
           try rw [<- hnst]
           clear hnst
           go_roundw
           case rel=>exact ⟨j+1,_,_,by omega,by go_num,rfl,HNS,HTN,HE3.out,HB3.out⟩
           case measure=>simp [intOf];omega
       · have hbk:(nk==2)=false:=by simpa using hb2
         have HBT:Hid (barT (decide (j=0)) nk=[]):=by
          show _=_;simp [barT,hb2]
         clear hb2;have y1:¬9223372036854775807<1+xs.size:=by omega
         have y2:¬9223372036854775807<1+xs.size+1:=by omega
         have y4:¬9223372036854775807<str.size+(1+xs.size+1):=by omega
         have HNE:Hid (str++(⟨#[40]⟩++xs++⟨#[41]⟩)=strOfNums (cur++barT (decide (j=0)) nk++brT true xt)):=by
          show _=_;rw [HBT.out,HST.out,HXS.out];simp only [brT,if_true];apply ByteArray.ext;simp [strOfNums]
         obtain ⟨nst,hnst⟩ :∃x,x=str++(⟨#[40]⟩++xs++⟨#[41]⟩):=⟨_,rfl⟩;have HNS:Hid (nst=strOfNums (cur++barT (decide (j=0)) nk++brT true xt)):=by show _=_;rw [hnst];exact HNE.out
         clear HNE;go_wp2
         try rw [<- hnst]
         clear hnst
         go_roundw
         case rel=>exact ⟨j+1,_,_,by omega,by go_num,rfl,HNS,HTN,HE3.out,HB3.out⟩
         case measure=>simp [intOf];omega
    · have HTE:Hid (t=cur++signT nk):=by
       have h5:=HTJ.out;rw [List.drop_eq_nil_of_le (by rw [<- HLEN.out.1];omega)] at h5;show _=_;rw [h5];rfl
      have y1:¬9223372036854775807<str.size+1:=by omega
      by_cases hk3:nk=3
      · subst hk3;have HNE:Hid (str++⟨#[42]⟩=strOfNums t):=by
         show _=_;rw [HTE.out,HST.out];apply ByteArray.ext;simp [strOfNums,signT]
        obtain ⟨nst,hnst⟩ :∃x,x=str++⟨#[42]⟩:=⟨_,rfl⟩;have HNS:Hid (nst=strOfNums t):=by show _=_;rw [hnst];exact HNE.out
        clear HNE;go_wp2;go_ret;refine ⟨?_,hB⟩;rw [<- HNS.out,hnst];rfl
      have hk3':(nk==3)=false:=by simpa using hk3
      by_cases hk4:nk=4
      · subst hk4;have HNE:Hid (str++⟨#[43]⟩=strOfNums t):=by
         show _=_;rw [HTE.out,HST.out];apply ByteArray.ext;simp [strOfNums,signT]
        obtain ⟨nst,hnst⟩ :∃x,x=str++⟨#[43]⟩:=⟨_,rfl⟩;have HNS:Hid (nst=strOfNums t):=by show _=_;rw [hnst];exact HNE.out
        clear HNE;go_wp2;go_ret;refine ⟨?_,hB⟩;rw [<- HNS.out,hnst];rfl
      have hk4':(nk==4)=false:=by simpa using hk4
      by_cases hk5:nk=5
      · subst hk5;have HNE:Hid (str++⟨#[63]⟩=strOfNums t):=by
         show _=_;rw [HTE.out,HST.out];apply ByteArray.ext;simp [strOfNums,signT]
        obtain ⟨nst,hnst⟩ :∃x,x=str++⟨#[63]⟩:=⟨_,rfl⟩;have HNS:Hid (nst=strOfNums t):=by show _=_;rw [hnst];exact HNE.out
        clear HNE;go_wp2;go_ret;refine ⟨?_,hB⟩;rw [<- HNS.out,hnst];rfl
      have hk5':(nk==5)=false:=by simpa using hk5
      have HNS:Hid (str=strOfNums t):=by
       show _=_;have:signT nk=[]:=by simp [signT,hk3,hk4,hk5]
       rw [HTE.out,this,List.append_nil,HST.out]
      clear hk3 hk4 hk5;go_wp2;go_ret;rw [<- HNS.out];exact ⟨rfl,hB⟩
end Go.Proofs.YtfdjchnckjgapaaGreatDoor
