/-
  RSetsP RRigP
-/
import Derived.Test.YtfdjchnckjgapaaGreatDoorZ42
import Derived.Test.YtfdjchnckjgapaaGreatDoorZ34
import Derived.Test.YtfdjchnckjgapaaGreatDoorZ24
import Derived.Deep.RegionHeld3
import Derived.Test.YtfdjchnckjgapaaGreatDoorZ44
namespace Go.Proofs.YtfdjchnckjgapaaGreatDoor
set_option maxHeartbeats 8000000
set_option maxRecDepth 100000
open Go.RowKit Go.Shelf S1
set_option linter.unusedVariables false
theorem any_take {st:Sts} {s:List Rg} {k:Nat} (h:k<st.length):((st.take (k+1)).any λx=>sameS x s)=(((st.take k).any λx=>sameS x s)||sameS st[k] s):=by
 rw [List.take_add_one,List.getElem?_eq_getElem h,Option.toList_some,List.any_append];simp
theorem rsets_any (st:Sts) (hst:st.length<=100) (hs40:∀s∈st,s.length<=20000) (sv:Value) (w:World) (h:SetSrc w sv st) :
 Calls Tryz.prog 31 #[sv] w λe w'=>e = .returned (.bool (setsF st.length st))/\Below w.heap.size w w':=by
 have HSA:Hid (SetSrc w sv st):=h;obtain ⟨za,ca,rfl,hca,_⟩:=h;have HS4:Hid (∀s∈st,s.length<=20000):=hs40;obtain ⟨b,hb⟩ :∃b,b=setsF st.length st:=⟨_,rfl⟩;rw [<- hb];have HB:Hid (b=setsF st.length st):=hb;obtain ⟨ns,hns⟩ :∃x,x=st.length:=⟨_,rfl⟩;rw [<- hns] at hca HSA ⊢;have HNS:Hid (ns=st.length):=hns;have hns1:ns<=100:=by omega
 clear hs40 hb hns hst;go_enter Tryz.func31,Tryz.ntmps31;go_wp2
 go_loopw [3] (λx wr=>∃(j:Nat),j<=ns/\x = .int .i64 (j:Int)/\Hid (setsF j st=true)/\Below w.heap.size w wr) (λx _=>ns-(intOf x).toNat)
 case atStart=>exact ⟨0,Nat.zero_le _,rfl,(show setsF 0 st=true from rfl),Below.refl _ _⟩
 case round =>
  obtain ⟨j,hj,rfl,HD,hB⟩:=hrel;by_cases hjl:j<ns
  · have hjs:j<st.length:=by have:=HNS.out;omega
    have HSR:Hid (SetSrc wr (.slice za ns ca) st):=HSA.out.below hB;obtain ⟨ga,oa,xa,xca,yl,rfl,hga,r0,hrg⟩ :∃(ga oa:Nat) (xa:Option Addr) (xca yl:Nat),za=some ⟨ga,oa,none⟩/\ga<wr.heap.size/\wr.cell? ⟨ga,oa+j,none⟩=some (.slice xa yl xca)/\RngSrc wr (.slice xa yl xca) st[j]:=by
     obtain ⟨a,ca',e1,_,hi⟩:=HSR.out;obtain ⟨ga,oa,x,rfl,hga,h0,h1⟩:=hi j hjs;have h1':=h1.1;obtain ⟨xa,xca,rfl,_⟩:=h1';exact ⟨ga,oa,xa,xca,_,by simp at e1;exact e1.1,hga,h0,h1⟩
    have hj0:(0:Int)<=(j:Int):=by omega
    have hj1:(j:Int)<(ns:Int):=by omega
    have HRG:Hid (RngSrc wr (.slice xa yl xca) st[j]):=hrg;have h40:st[j].length<=20000:=HS4.out _ (List.getElem_mem hjs);have h1:=refMake_any st[j] (.slice xa yl xca) wr (by omega) HRG.out;have HNX:Hid (setsF (j+1) st=false->b=false):=λh=>by rw [HB.out];exact setsF_end hjs h
    have HAT:Hid (setsF (j+1) st=(isSetB st[j] && !((st.take j).any λx=>sameS x st[j]))):=setsF_at hjs HD.out;have HNIL:Hid (∀W,RngIn W (.slice none 0 0) []):=λW=>RngAt.nil _ _;have HR0:Hid (wr.cell? ⟨ga,oa+j,none⟩=some (.slice xa yl xca)):=r0;clear hrg h40
    go_wp2_with fail
    refine h1.mono ?_;rintro e w1 ⟨(⟨hf,rfl⟩ | ⟨hf,s,v',hu,rfl,how⟩),hB1⟩
    · have HE:Hid (b=false):=HNX.out (by rw [HAT.out,isSetB_bad hf];rfl);have HBB:Hid (Below w.heap.size w w1):=below_after hB hB1;have r1:w1.cell? ⟨ga,oa+j,none⟩=some (.slice xa yl xca):=(hB1.cell (p:=⟨ga,_,none⟩) hga).trans r0;have hga1:ga<w1.heap.size:=Nat.lt_of_lt_of_le hga hB1.size;have h2:=sameG_any [] st[j] (by simp) (.slice none 0 0) (.slice xa yl xca) w1 (HNIL.out _) (HRG.out.1.below hB1);obtain ⟨qq,hqq⟩ :∃x,x=sameS [] st[j]:=⟨_,rfl⟩;rw [<- hqq] at h2;clear h1 hf hB1 hqq
      go_wp2_with fail
      refine h2.mono ?_;rintro e w2 ⟨rfl,hB2⟩;clear h2;have hBB2:=below_after HBB.out hB2;go_wp2;go_ret;rw [HE.out];exact ⟨rfl,hBB2⟩
    · have hms:mkS st[j]=s:=mkS_eq hf hu;have HIS:Hid (isSetB st[j]=sameS s st[j]):=by
       show _=_;rw [isSetB_fit hf,hms]
      have r1:w1.cell? ⟨ga,oa+j,none⟩=some (.slice xa yl xca):=(hB1.cell (p:=⟨ga,_,none⟩) hga).trans r0;have hga1:ga<w1.heap.size:=Nat.lt_of_lt_of_le hga hB1.size;have h2:=sameG_any s st[j] (by have:=hu.isSet.len;omega) v' (.slice xa yl xca) w1 (rng_of_row how) (HRG.out.1.below hB1);obtain ⟨va,vc,rfl,_⟩:=rng_of_row how;have HBw1:Hid (Below wr.heap.size wr w1):=hB1;clear h1 hf hu how hms hB1;cases hsm:sameS s st[j] with
      | false =>
       rw [hsm] at h2;have HE:Hid (b=false):=HNX.out (by rw [HAT.out,HIS.out,hsm];rfl);clear hsm
       go_wp2_with fail
       refine h2.mono ?_;rintro e w2 ⟨rfl,hB2⟩;clear h2;have hBB:=below_after hB (below_after HBw1.out hB2);go_wp2;go_ret;rw [HE.out];exact ⟨rfl,hBB⟩
      | true =>
       rw [hsm] at h2;have HAT2:Hid (setsF (j+1) st = !((st.take j).any λx=>sameS x st[j])):=by
        show _=_;rw [HAT.out,HIS.out,hsm,Bool.true_and]
       clear hsm
       go_wp2_with fail
       refine h2.mono ?_;rintro e w2 ⟨rfl,hB2⟩;clear h2;have HBw2:Hid (Below wr.heap.size wr w2):=below_after HBw1.out hB2;have HBW:Hid (Below w.heap.size w wr):=hB;obtain ⟨wr0,hwr0⟩ :∃x,x=wr:=⟨_,rfl⟩;have HWR:Hid (wr0=wr):=hwr0;rw [<- hwr0] at HSR HRG HBw2 HBW HR0;have hga0:ga<wr0.heap.size:=by rw [hwr0];exact hga
       clear hB2 hwr0 r0 r1 hga hga1 HBw1 hB;go_wp2
       go_loopw [7] (λx wr=>∃(k:Nat),k<=j/\x = .int .i64 (k:Int)/\Hid (((st.take k).any λx=>sameS x st[j])=false)/\Below wr0.heap.size wr0 wr) (λx _=>j-(intOf x).toNat)
       case atStart=>exact ⟨0,Nat.zero_le _,rfl,(show _=_ by rfl),HBw2.out⟩
       case round =>
        obtain ⟨k,hk,rfl,HK,hBk⟩:=hrel;by_cases hkl:k<j
        · have hks:k<st.length:=by omega
          obtain ⟨yb,ycb,zl,q0,hq⟩ :∃(yb:Option Addr) (ycb zl:Nat),wr.cell? ⟨ga,oa+k,none⟩=some (.slice yb zl ycb)/\RngIn wr (.slice yb zl ycb) st[k]:=by
           obtain ⟨a,ca',e1,_,hi⟩:=HSR.out.below hBk;obtain ⟨g2,o2,x,rfl,hg2,h0,h1⟩:=hi k hks;have e1':ga=g2/\oa=o2:=by simp at e1;exact ⟨e1.1.1,e1.1.2⟩
           obtain ⟨rfl,rfl⟩:=e1';have h1':=h1.1;obtain ⟨xa,xca,rfl,_⟩:=h1';exact ⟨xa,xca,_,h0,h1.1⟩
          have q1:wr.cell? ⟨ga,oa+j,none⟩=some (.slice xa yl xca):=(hBk.cell (p:=⟨ga,_,none⟩) hga0).trans HR0.out;have hgk:ga<wr.heap.size:=Nat.lt_of_lt_of_le hga0 hBk.size;have HSM:Hid (∀W,Below wr.heap.size wr W->Calls Tryz.prog 24 #[.slice yb zl ycb,.slice xa yl xca] W λe w'=>e = .returned (.bool (sameS st[k] st[j]))/\Below W.heap.size W w'):=λW hW=>sameG_any st[k] st[j] (by have:=HS4.out _ (List.getElem_mem hks);omega) _ _ W (hq.below hW) (HRG.out.1.below (below_after hBk hW));have HKP:Hid (∀W,Below (wr.drewN 1).heap.size (wr.drewN 1) W->W.cell? ⟨ga,oa+k,none⟩=some (.slice yb zl ycb)/\W.cell? ⟨ga,oa+j,none⟩=some (.slice xa yl xca)):=λW hW=>by
           have hk2:Below wr.heap.size wr W:=(below_drewN' (Below.refl _ _) 1).trans hW;exact ⟨(hk2.cell (p:=⟨ga,_,none⟩) hgk).trans q0,(hk2.cell (p:=⟨ga,_,none⟩) hgk).trans q1⟩
          have hk0:(0:Int)<=(k:Int):=by omega
          have hk1:(k:Int)<(ns:Int):=by omega
          have HAN:Hid (((st.take (k+1)).any λx=>sameS x st[j])=sameS st[k] st[j]):=by
           show _=_;rw [any_take hks,HK.out,Bool.false_or]
          obtain ⟨bb,hbb⟩ :∃x,x=sameS st[k] st[j]:=⟨_,rfl⟩;rw [<- hbb] at HSM HAN;clear hq hbb;go_wp2
          go_region_held3 (λw'=>w'.cell? ⟨ga,oa+k,none⟩=some (.slice yb zl ycb)/\w'.cell? ⟨ga,oa+j,none⟩=some (.slice xa yl xca)) (first | exact HKP.out _ hB3 | go_keep) ((go_at_call 24;refine (HSM.out _ (by exact below_drewN' (Below.refl _ _) 1)).mono ?_;rintro e w3 ⟨rfl,hB3⟩))
          have HB3:Hid (Below wr0.heap.size wr0 w3):=below_after hBk ((below_drewN' (Below.refl _ _) 1).trans hB3);clear hB3;cases hbv:bb with
          | true =>
           have HE:Hid (b=false):=HNX.out (by
            rw [HAT2.out];have h5:((st.take j).any λx=>sameS x st[j])=true:=by
             have h6:=HAN.out;rw [hbv] at h6;rw [List.any_eq_true] at h6 ⊢;obtain ⟨x,hx1,hx2⟩:=h6;refine ⟨x,?_,hx2⟩;have e:st.take (k+1)=(st.take j).take (k+1):=by rw [List.take_take,Nat.min_eq_left (by omega)]
             rw [e] at hx1;exact List.mem_of_mem_take hx1
            rw [h5];rfl)
           clear hbv;go_wp2;go_ret;rw [HE.out];exact ⟨rfl,below_after HBW.out HB3.out⟩
          | false =>
           have HK2:Hid (((st.take (k+1)).any λx=>sameS x st[j])=false):=by show _=_;rw [HAN.out,hbv]
           clear hbv;go_wp2
           go_roundw
           case rel=>exact ⟨k+1,by omega,by go_num,HK2,HB3.out⟩
           case measure=>simp [intOf];omega
        · have HS1:Hid (setsF (j+1) st=true):=by
           show _=_;have h6:=HK.out;have e:k=j:=by omega
           rw [HAT2.out];have h7:((st.take j).any λx=>sameS x st[j])=false:=by rw [<- h6,e]
           rw [h7];rfl
          have hBB:Below w.heap.size w wr:=below_after HBW.out hBk;go_wp2
          go_roundw
          case rel=>exact ⟨j+1,by omega,by go_num,HS1,hBB⟩
          case measure=>simp [intOf];omega
  · have HE:Hid (b=true):=by
     show _=_;rw [HB.out,<- HNS.out,<- HD.out,show j=ns by omega]
    go_wp2;go_ret;rw [HE.out];exact ⟨rfl,hB⟩
set_option maxHeartbeats 16000000
set_option maxRecDepth 100000
theorem frN_in:∀ {f dp sg b:Nat} {n:Nd},frN f dp sg b n=true->SIn f b n
 | 0,dp,sg,b,n,h=>λhk=>by
  unfold frN at h;rw [if_pos hk,Bool.and_eq_true] at h;exact inS_iff.1 h.2
 | f+1,dp,sg,b,n,h=>by
  unfold frN at h;by_cases hk:n.k=1
  · rw [if_pos hk,Bool.and_eq_true] at h;refine ⟨λ_=>inS_iff.1 h.2,λx hx => ?_⟩;rw [List.isEmpty_iff.1 h.1] at hx;cases hx
  · rw [if_neg hk,Bool.and_eq_true,List.all_eq_true] at h;refine ⟨λq=>absurd q hk,λx hx => ?_⟩;have:=h.2 x hx;rw [Bool.and_eq_true] at this;exact frN_in this.2
theorem rright_any8 (st:Sts) (rl:List Rl) (hok:FewOk st rl) (sv rv:Value) (w:World) (h:SetSrc w sv st) (k:RulIn w rv rl) :
 Calls Tryz.prog 16 #[.agg #[sv,rv]] w λe w'=>e = .returned (.bool (rightB st rl))/\Below w.heap.size w w':=by
 have HOK:Hid (FewOk st rl):=hok;have HSA:Hid (SetSrc w sv st):=h;have HRA:Hid (RulIn w rv rl):=k;obtain ⟨za,ca,rfl,hca,_⟩:=h;obtain ⟨ya,da,rfl,hda,_⟩:=k;obtain ⟨q,hq⟩ :∃q,q=rightB st rl:=⟨_,rfl⟩;rw [<- hq];have HRR:Hid (refR st.length 0 rl=(mayR 0 rl==some st.length)):=refR_eq (m:=0) (λx hx=>⟨(hok.2.2.2 x hx).1.1,(hok.2.2.2 x hx).2.1⟩);have HQ:Hid (q=(decide (st.length<=60)&&decide (rl.length<=64)&&setsF st.length st&&refR st.length 0 rl)):=by
  show _=_;rw [hq,HRR.out];rfl
 have hsa:=λW hW=>rsets_any st (by have:=hok.1;omega) (λs hs=>by have:=hok.2.2.1 s hs;omega) (.slice za st.length ca) W (HSA.out.below (w':=W) hW);have hns70:=hok.1;have hnr70:=hok.2.1;obtain ⟨ns,hns⟩ :∃x,x=st.length:=⟨_,rfl⟩;obtain ⟨nr,hnr⟩ :∃x,x=rl.length:=⟨_,rfl⟩;rw [<- hns] at HSA hca hsa hns70 HQ ⊢;rw [<- hnr] at HRA hda hnr70 HQ ⊢;have HNS:Hid (ns=st.length):=hns;have HNR:Hid (nr=rl.length):=hnr;have HB0:Hid (Below w.heap.size w (w.alloc (.cells #[.slice za ns ca,.slice ya nr da] 27))):=below_alloc _ _;have HEA:Hid ((w.alloc (.cells #[.slice za ns ca,.slice ya nr da] 27)).heap[w.heap.size]? = some (.cells #[.slice za ns ca,.slice ya nr da] 27 (0,0))):=heap_new' w _;have hsa1:=hsa _ HB0.out;clear hq hok hns hnr hsa HRR;by_cases h1:60<ns
 · have h1':decide ((ns:Int) > 60)=true:=by simp;omega
   have h2:decide (ns<=60)=false:=by simp;omega
   have HE:Hid (q=false):=by show _=_;rw [HQ.out,h2];rfl
   clear h1 h2 hsa1;go_enter Tryz.func16,Tryz.ntmps16;go_wp2;go_ret;rw [HE.out];exact ⟨rfl,HB0.out⟩
 have h1':decide ((ns:Int) > 60)=false:=by simp;omega
 have h1d:decide (ns<=60)=true:=by simp;omega
 by_cases h2:64<nr
 · have h2':decide ((nr:Int) > 64)=true:=by simp;omega
   have h2d:decide (nr<=64)=false:=by simp;omega
   have HE:Hid (q=false):=by show _=_;rw [HQ.out,h1d,h2d];rfl
   clear h1 h2 h1d h2d hsa1;go_enter Tryz.func16,Tryz.ntmps16;go_wp2;go_ret;rw [HE.out];exact ⟨rfl,HB0.out⟩
 have h2':decide ((nr:Int) > 64)=false:=by simp;omega
 have h2d:decide (nr<=64)=true:=by simp;omega
 have HQ2:Hid (q=(setsF ns st&&refR ns 0 rl)):=by show _=_;rw [HQ.out,h1d,h2d];rfl
 clear h1 h2 h1d h2d HQ;cases hsf:setsF ns st with
 | false =>
  rw [hsf] at hsa1;have HE:Hid (q=false):=by show _=_;rw [HQ2.out,hsf];rfl
  clear hsf;go_enter Tryz.func16,Tryz.ntmps16
  go_wp2_with fail
  refine hsa1.mono ?_;rintro e w1 ⟨rfl,hB1⟩;clear hsa1;have hBB:=below_after HB0.out hB1;go_wp2;go_ret;rw [HE.out];exact ⟨rfl,hBB⟩
 | true =>
  rw [hsf] at hsa1;have HQ3:Hid (q=refR ns 0 rl):=by show _=_;rw [HQ2.out,hsf,Bool.true_and]
  clear hsf HQ2;go_enter Tryz.func16,Tryz.ntmps16
  go_wp2_with fail
  refine hsa1.mono ?_;rintro e w1 ⟨rfl,hB1⟩;clear hsa1;have HB01:Hid (Below w.heap.size w w1):=below_after HB0.out hB1;have HE1:Hid (w1.heap[w.heap.size]? = some (.cells #[.slice za ns ca,.slice ya nr da] 27 (0,0))):=(hB1.block _ (by simp)).trans HEA.out;clear hB1;go_wp2
  go_loopw [4,5] (λx4 x wr=>∃(j a:Nat),j<=nr/\x = .int .i64 (j:Int)/\x4 = .int .i64 (a:Int)/\Hid (q=refR ns (a:Int) (rl.drop j))/\a<=6200*j/\wr.heap[w.heap.size]? = some (.cells #[.slice za ns ca,.slice ya nr da] 27 (0,0))/\Below w.heap.size w wr) (λ_ x _=>nr-(intOf x).toNat)
  case atStart=>exact ⟨0,0,Nat.zero_le _,rfl,rfl,(show _=_ by rw [List.drop_zero];exact HQ3.out),(by omega),HE1.out,HB01.out⟩
  case round =>
   obtain ⟨j,a,hj,rfl,rfl,HD,ham,hEA,hB⟩:=hrel;have hlt:w.heap.size<wr.heap.size:=(Array.getElem?_eq_some_iff.1 hEA).1;have a0:wr.cell? ⟨w.heap.size,0,none⟩=some (.slice za ns ca):=cell_of_row _ _ 0 _ _ _ hEA;have a1:wr.cell? ⟨w.heap.size,1,none⟩=some (.slice ya nr da):=cell_of_row _ _ 1 _ _ _ hEA;have HEA':Hid (wr.heap[w.heap.size]? = some (.cells #[.slice za ns ca,.slice ya nr da] 27 (0,0))):=hEA;clear hEA;by_cases hjl:j<nr
   · have hjs:j<rl.length:=by have:=HNR.out;omega
     obtain ⟨ga,oa,lk,ls,la,ln,lca,rk,rs,ra,rn,rca,rfl,hga,⟨c1,c2,c3,c4,c5,c6⟩,hfl,hfr,hml,hmr⟩ :∃(ga oa:Nat) (lk ls:Int) (la:Option Addr) (ln lca:Nat) (rk rs:Int) (ra:Option Addr) (rn rca:Nat),ya=some ⟨ga,oa,none⟩/\ga<wr.heap.size /\
      (wr.cell? ⟨ga,oa+j*7+1,none⟩=some (.int .i64 lk)/\wr.cell? ⟨ga,oa+j*7+2,none⟩=some (.int .i64 ls)/\wr.cell? ⟨ga,oa+j*7+3,none⟩=some (.slice la ln lca)/\wr.cell? ⟨ga,oa+j*7+4,none⟩=some (.int .i64 rk)/\wr.cell? ⟨ga,oa+j*7+5,none⟩=some (.int .i64 rs)/\wr.cell? ⟨ga,oa+j*7+6,none⟩=some (.slice ra rn rca)) /\
      (∀W,Below wr.heap.size wr W->Calls Tryz.prog 32 #[.agg #[.int .i64 lk,.int .i64 ls,.slice la ln lca],.int .i64 0,.int .i64 0,.int .i64 (ns:Int)] W λe w'=>e = .returned (.bool (frN 120 0 0 ns rl[j].l))/\Below W.heap.size W w')/\(∀W,Below wr.heap.size wr W->Calls Tryz.prog 32 #[.agg #[.int .i64 rk,.int .i64 rs,.slice ra rn rca],.int .i64 0,.int .i64 0,.int .i64 (ns:Int)] W λe w'=>e = .returned (.bool (frN 120 0 0 ns rl[j].r))/\Below W.heap.size W w')/\(∀(a:Nat) W,a<=900000->frN 120 0 0 ns rl[j].l=true->Below wr.heap.size wr W->Calls Tryz.prog 33 #[.agg #[.int .i64 lk,.int .i64 ls,.slice la ln lca],.int .i64 (a:Int)] W λe w'=>e = .returned (.int .i64 (rmN 120 (a:Int) rl[j].l))/\Below W.heap.size W w')/\(∀(a:Nat) W,a<=900000->frN 120 0 0 ns rl[j].r=true->Below wr.heap.size wr W->Calls Tryz.prog 33 #[.agg #[.int .i64 rk,.int .i64 rs,.slice ra rn rca],.int .i64 (a:Int)] W λe w'=>e = .returned (.int .i64 (rmN 120 (a:Int) rl[j].r))/\Below W.heap.size W w'):=by
      obtain ⟨a,ca',e1,_,hi⟩:=HRA.out.below hB;obtain ⟨ga,oa,zl,zr,rfl,hga,c0,c1,c2,c3,c4,c5,c6,c7,c8⟩:=hi j hjs;obtain ⟨x1,x2,rfl,_⟩:=c7.slice;obtain ⟨x3,x4,rfl,_⟩:=c8.slice;have hf:=HOK.out.2.2.2 _ (List.getElem_mem hjs);have e1':ya=some ⟨ga,oa,none⟩:=by simp at e1;exact e1.1
      have hto:∀W,Below wr.heap.size wr W->∀k,k<wr.heap.size->W.heap[k]? = wr.heap[k]? /\ k<W.heap.size:=λW hW k hk=>⟨hW.block k hk,Nat.lt_of_lt_of_le hk hW.size⟩;exact ⟨ga,oa,_,_,x1,_,x2,_,_,x3,_,x4,e1',hga,⟨c1,c2,c3,c4,c5,c6⟩,λW hW=>form_any 120 rl[j].l _ 0 0 ns W hf.1.1 (by omega) (by omega) (by omega) (c7.to (hto W hW)),λW hW=>form_any 120 rl[j].r _ 0 0 ns W hf.2.1 (by omega) (by omega) (by omega) (c8.to (hto W hW)),λa W ha hfr hW=>met_any 120 rl[j].l _ a ns W hf.1.1 (frN_in hfr) (by have:=hf.1.2;omega) (c7.to (hto W hW)),λa W ha hfr hW=>met_any 120 rl[j].r _ a ns W hf.2.1 (frN_in hfr) (by have:=hf.2.2;omega) (c8.to (hto W hW))⟩
     have hj0:(0:Int)<=(j:Int):=by omega
     have hj1:(j:Int)<(nr:Int):=by omega
     have ed:rl.drop j=rl[j]::rl.drop (j+1):=List.drop_eq_getElem_cons hjs;have HD1:Hid (q=(frN 120 0 0 ns rl[j].l&&frN 120 0 0 ns rl[j].r&&(if rmN 120 (a:Int) rl[j].l<0 then false else if rmN 120 (rmN 120 (a:Int) rl[j].l) rl[j].r<0 then false else refR ns (rmN 120 (rmN 120 (a:Int) rl[j].l) rl[j].r) (rl.drop (j+1))))):=by
      show _=_;rw [HD.out,ed,refR]
     have hf:=HOK.out.2.2.2 _ (List.getElem_mem hjs);have HSZ:Hid (Sz 120 rl[j].l<3100/\Sz 120 rl[j].r<3100):=⟨hf.1.2,hf.2.2⟩;have HFL:Hid (∀W,Below wr.heap.size wr W->Calls Tryz.prog 32 #[.agg #[.int .i64 lk,.int .i64 ls,.slice la ln lca],.int .i64 0,.int .i64 0,.int .i64 (ns:Int)] W λe w'=>e = .returned (.bool (frN 120 0 0 ns rl[j].l))/\Below W.heap.size W w'):=hfl;have HFR:Hid (∀W,Below wr.heap.size wr W->Calls Tryz.prog 32 #[.agg #[.int .i64 rk,.int .i64 rs,.slice ra rn rca],.int .i64 0,.int .i64 0,.int .i64 (ns:Int)] W λe w'=>e = .returned (.bool (frN 120 0 0 ns rl[j].r))/\Below W.heap.size W w'):=hfr;have HML:Hid (∀(a:Nat) W,a<=900000->frN 120 0 0 ns rl[j].l=true->Below wr.heap.size wr W->Calls Tryz.prog 33 #[.agg #[.int .i64 lk,.int .i64 ls,.slice la ln lca],.int .i64 (a:Int)] W λe w'=>e = .returned (.int .i64 (rmN 120 (a:Int) rl[j].l))/\Below W.heap.size W w'):=hml;have HMR:Hid (∀(a:Nat) W,a<=900000->frN 120 0 0 ns rl[j].r=true->Below wr.heap.size wr W->Calls Tryz.prog 33 #[.agg #[.int .i64 rk,.int .i64 rs,.slice ra rn rca],.int .i64 (a:Int)] W λe w'=>e = .returned (.int .i64 (rmN 120 (a:Int) rl[j].r))/\Below W.heap.size W w'):=hmr;have HCL:Hid (∀W,Below wr.heap.size wr W->W.cell? ⟨w.heap.size,0,none⟩=some (.slice za ns ca)/\W.cell? ⟨w.heap.size,1,none⟩=some (.slice (some ⟨ga,oa,none⟩) nr da)/\W.cell? ⟨ga,oa+j*7+1,none⟩=some (.int .i64 lk)/\W.cell? ⟨ga,oa+j*7+2,none⟩=some (.int .i64 ls)/\W.cell? ⟨ga,oa+j*7+3,none⟩=some (.slice la ln lca)):=λW hk=>⟨(hk.cell (p:=⟨_,_,none⟩) hlt).trans a0,(hk.cell (p:=⟨_,_,none⟩) hlt).trans a1,(hk.cell (p:=⟨ga,_,none⟩) hga).trans c1,(hk.cell (p:=⟨ga,_,none⟩) hga).trans c2,(hk.cell (p:=⟨ga,_,none⟩) hga).trans c3⟩;have HCR:Hid (∀W,Below wr.heap.size wr W->W.cell? ⟨w.heap.size,0,none⟩=some (.slice za ns ca)/\W.cell? ⟨w.heap.size,1,none⟩=some (.slice (some ⟨ga,oa,none⟩) nr da)/\W.cell? ⟨ga,oa+j*7+4,none⟩=some (.int .i64 rk)/\W.cell? ⟨ga,oa+j*7+5,none⟩=some (.int .i64 rs)/\W.cell? ⟨ga,oa+j*7+6,none⟩=some (.slice ra rn rca)):=λW hk=>⟨(hk.cell (p:=⟨_,_,none⟩) hlt).trans a0,(hk.cell (p:=⟨_,_,none⟩) hlt).trans a1,(hk.cell (p:=⟨ga,_,none⟩) hga).trans c4,(hk.cell (p:=⟨ga,_,none⟩) hga).trans c5,(hk.cell (p:=⟨ga,_,none⟩) hga).trans c6⟩;have HK1:Hid (∀W,Below (wr.drewN 1).heap.size (wr.drewN 1) W->W.cell? ⟨w.heap.size,0,none⟩=some (.slice za ns ca)/\W.cell? ⟨w.heap.size,1,none⟩=some (.slice (some ⟨ga,oa,none⟩) nr da)/\W.cell? ⟨ga,oa+j*7+1,none⟩=some (.int .i64 lk)/\W.cell? ⟨ga,oa+j*7+2,none⟩=some (.int .i64 ls)/\W.cell? ⟨ga,oa+j*7+3,none⟩=some (.slice la ln lca)):=λW hW=>HCL.out W ((below_drewN' (Below.refl _ _) 1).trans hW);obtain ⟨fl,hflv⟩ :∃x,x=frN 120 0 0 ns rl[j].l:=⟨_,rfl⟩;obtain ⟨fr,hfrv⟩ :∃x,x=frN 120 0 0 ns rl[j].r:=⟨_,rfl⟩;rw [<- hflv] at HFL HD1 HML;rw [<- hfrv] at HFR HD1 HMR;clear hfl hfr hml hmr ed hf hflv hfrv c4 c5 c6 HD;go_wp2
     go_region_held3 (λw'=>w'.cell? ⟨w.heap.size,0,none⟩=some (.slice za ns ca)/\w'.cell? ⟨w.heap.size,1,none⟩=some (.slice (some ⟨ga,oa,none⟩) nr da)/\w'.cell? ⟨ga,oa+j*7+1,none⟩=some (.int .i64 lk)/\w'.cell? ⟨ga,oa+j*7+2,none⟩=some (.int .i64 ls)/\w'.cell? ⟨ga,oa+j*7+3,none⟩=some (.slice la ln lca)) (first | exact HK1.out _ hB1 | go_keep) ((go_at_call 32;refine (HFL.out _ (by exact below_drewN' (Below.refl _ _) 1)).mono ?_;rintro e w2 ⟨rfl,hB1⟩))
     have hk2:Below wr.heap.size wr w2:=(below_drewN' (Below.refl _ _) 1).trans hB1;have HKK2:Hid (Below wr.heap.size wr w2):=hk2;obtain ⟨d0,d1,d4,d5,d6⟩:=HCR.out _ hk2;have hs2:=hk2.size;have hga2:ga<w2.heap.size:=by omega
     have hlt2:w.heap.size<w2.heap.size:=by omega
     have HK2:Hid (∀W,Below (w2.drewN 1).heap.size (w2.drewN 1) W->W.cell? ⟨w.heap.size,0,none⟩=some (.slice za ns ca)/\W.cell? ⟨w.heap.size,1,none⟩=some (.slice (some ⟨ga,oa,none⟩) nr da)/\W.cell? ⟨ga,oa+j*7+4,none⟩=some (.int .i64 rk)/\W.cell? ⟨ga,oa+j*7+5,none⟩=some (.int .i64 rs)/\W.cell? ⟨ga,oa+j*7+6,none⟩=some (.slice ra rn rca)):=λW hW=>HCR.out W (below_after HKK2.out ((below_drewN' (Below.refl _ _) 1).trans hW));have HFR2:Hid (∀W,Below w2.heap.size w2 W->Calls Tryz.prog 32 #[.agg #[.int .i64 rk,.int .i64 rs,.slice ra rn rca],.int .i64 0,.int .i64 0,.int .i64 (ns:Int)] W λe w'=>e = .returned (.bool fr)/\Below W.heap.size W w'):=λW hW=>HFR.out W (below_after HKK2.out hW);clear hB1 hk2 hs2 a0 a1 c1 c2 c3;go_wp2
     go_region_held3 (λw'=>w'.cell? ⟨w.heap.size,0,none⟩=some (.slice za ns ca)/\w'.cell? ⟨w.heap.size,1,none⟩=some (.slice (some ⟨ga,oa,none⟩) nr da)/\w'.cell? ⟨ga,oa+j*7+4,none⟩=some (.int .i64 rk)/\w'.cell? ⟨ga,oa+j*7+5,none⟩=some (.int .i64 rs)/\w'.cell? ⟨ga,oa+j*7+6,none⟩=some (.slice ra rn rca)) (first | exact HK2.out _ hB2 | go_keep) ((go_at_call 32;refine (HFR2.out _ (by exact below_drewN' (Below.refl _ _) 1)).mono ?_;rintro e w3 ⟨rfl,hB2⟩))
     have hk3:Below wr.heap.size wr w3:=below_after HKK2.out ((below_drewN' (Below.refl _ _) 1).trans hB2);have HKK3:Hid (Below wr.heap.size wr w3):=hk3;have HB3:Hid (Below w.heap.size w w3):=below_after hB hk3;clear hB2 d0 d1 d4 d5 d6 hga2 hlt2;cases hflb:fl with
     | false =>
      have HF:Hid (q=false):=by show _=_;rw [HD1.out,hflb];rfl
      clear hflb;go_wp2;go_ret;rw [HF.out];exact ⟨rfl,HB3.out⟩
     | true =>
      cases hfrb:fr with
      | false =>
       have HF:Hid (q=false):=by show _=_;rw [HD1.out,hflb,hfrb];rfl
       clear hflb hfrb;go_wp2;go_ret;rw [HF.out];exact ⟨rfl,HB3.out⟩
      | true =>
       have hcm:=HML.out a w3 (by omega) hflb hk3;have HD2:Hid (q=(if rmN 120 (a:Int) rl[j].l<0 then false else if rmN 120 (rmN 120 (a:Int) rl[j].l) rl[j].r<0 then false else refR ns (rmN 120 (rmN 120 (a:Int) rl[j].l) rl[j].r) (rl.drop (j+1)))):=by show _=_;rw [HD1.out,hflb,hfrb];rfl
       have HRM:Hid (rmN 120 (a:Int) rl[j].l<=(a:Int)+(Sz 120 rl[j].l:Int)/\-1<=rmN 120 (a:Int) rl[j].l):=rmN_le (by omega);have HFB:Hid (fr=true):=hfrb;obtain ⟨nv,hnv⟩ :∃x,x=rmN 120 (a:Int) rl[j].l:=⟨_,rfl⟩;rw [<- hnv] at hcm HD2 HRM;obtain ⟨e0,e1,e2,e3,e4⟩:=HCL.out _ hk3;have hs3:=hk3.size;have hga3:ga<w3.heap.size:=by omega
       have hlt3:w.heap.size<w3.heap.size:=by omega
       clear hflb hfrb hnv HD1 hk3 hs3
       go_wp2_with fail
       refine hcm.mono ?_;rintro e w4 ⟨rfl,hB4⟩;clear hcm;have HKK4:Hid (Below wr.heap.size wr w4):=below_after HKK3.out hB4;have HB4:Hid (Below w.heap.size w w4):=below_after hB HKK4.out;clear hB4 e0 e1 e2 e3 e4 hga3 hlt3;by_cases hneg:nv<0
       · obtain rfl:nv=-1:=by have:=HRM.out.2;omega
         have HF:Hid (q=false):=by show _=_;rw [HD2.out,if_pos hneg]
         clear hneg;go_wp2;go_ret;rw [HF.out];exact ⟨rfl,HB4.out⟩
       · obtain ⟨an,rfl⟩ :∃an:Nat,nv=(an:Int):=⟨nv.toNat,by omega⟩;have han:an<=a+3100:=by have:=HRM.out.1;have:=HSZ.out.1;omega
         have HD3:Hid (q=(if rmN 120 (an:Int) rl[j].r<0 then false else refR ns (rmN 120 (an:Int) rl[j].r) (rl.drop (j+1)))):=by show _=_;rw [HD2.out,if_neg hneg]
         have hcm:=HMR.out an w4 (by omega) HFB.out HKK4.out;have HRM2:Hid (rmN 120 (an:Int) rl[j].r<=(an:Int)+(Sz 120 rl[j].r:Int)/\-1<=rmN 120 (an:Int) rl[j].r):=rmN_le (by omega);obtain ⟨nw,hnw⟩ :∃x,x=rmN 120 (an:Int) rl[j].r:=⟨_,rfl⟩;rw [<- hnw] at hcm HD3 HRM2;obtain ⟨e0,e1,e2,e3,e4⟩:=HCR.out _ HKK4.out;have hs4:=HKK4.out.size;have hga4:ga<w4.heap.size:=by omega
         have hlt4:w.heap.size<w4.heap.size:=by omega
         have hge:decide ((an:Int) ≥ 0)=true:=by simp
         clear hneg hnw HD2 hs4 HRM
         go_wp2_with fail
         refine hcm.mono ?_;rintro e w5 ⟨rfl,hB5⟩;clear hcm;have HKK5:Hid (Below wr.heap.size wr w5):=below_after HKK4.out hB5;have HB5:Hid (Below w.heap.size w w5):=below_after hB HKK5.out;have HE5:Hid (w5.heap[w.heap.size]? = some (.cells #[.slice za ns ca,.slice (some ⟨ga,oa,none⟩) nr da] 27 (0,0))):=(HKK5.out.block _ hlt).trans HEA'.out;clear hB5 e0 e1 e2 e3 e4 hga4 hlt4;by_cases hneg:nw<0
         · obtain rfl:nw=-1:=by have:=HRM2.out.2;omega
           have HF:Hid (q=false):=by show _=_;rw [HD3.out,if_pos hneg]
           clear hneg;go_wp2;go_ret;rw [HF.out];exact ⟨rfl,HB5.out⟩
         · obtain ⟨am,rfl⟩ :∃am:Nat,nw=(am:Int):=⟨nw.toNat,by omega⟩;have ham2:am<=6200*(j+1):=by have:=HRM2.out.1;have:=HSZ.out.2;omega
           have HF:Hid (q=refR ns (am:Int) (rl.drop (j+1))):=by show _=_;rw [HD3.out,if_neg hneg]
           clear hneg;go_wp2
           go_roundw
           case rel=>exact ⟨j+1,am,by omega,by go_num,rfl,HF,ham2,HE5.out,HB5.out⟩
           case measure=>simp [intOf];omega
   · have HE:Hid (q=((a:Int)==(ns:Int))):=by
      show _=_;rw [HD.out,List.drop_eq_nil_of_le (by rw [<- HNR.out];omega)];rfl
     go_wp2;go_ret;rw [HE.out];exact ⟨rfl,hB⟩
end Go.Proofs.YtfdjchnckjgapaaGreatDoor
