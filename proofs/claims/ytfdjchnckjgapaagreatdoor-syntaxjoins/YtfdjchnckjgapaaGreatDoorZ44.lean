/-
  FrmP
-/
import Derived.Test.YtfdjchnckjgapaaGreatDoorZ43
import Derived.Test.YtfdjchnckjgapaaGreatDoorZ27
import Derived.Deep.RegionHeld3
namespace Go.Proofs.YtfdjchnckjgapaaGreatDoor
set_option maxHeartbeats 16000000
set_option maxRecDepth 100000
open Go.RowKit Go.Shelf S1
set_option linter.unusedVariables false
def allF (f dp sg b:Nat) (k:Int) (l:List Nd):Bool:=l.all λx=>decide (dp+brN x.k k<=20)&&frN f (dp+brN x.k k) sg b x
theorem form_body (n:Nd) (za:Option Addr) (ca:Nat) (f dp sg b:Nat) (hlen:n.kids.length<=3100) (hdp:dp<=20) (hsg:sg<=3) (hb:b<=1000000) (w:World) (q:Bool)
 (hq1:n.k=1->q=(n.kids.isEmpty&&inS b n.s)) (hq2:n.k≠1->okH sg n=false->q=false) (hq3:n.k≠1->okH sg n=true->q=allF f dp (sgs sg n.k) b n.k n.kids)
 (HR:∀i,(h:i<n.kids.length)->n.kids.length<=ca/\∃ga oa xa ka,za=some ⟨ga,oa,none⟩/\ga<w.heap.size/\w.cell? ⟨ga,oa+i*3,none⟩=some (.int .i64 n.kids[i].k)/\w.cell? ⟨ga,oa+i*3+1,none⟩=some (.int .i64 n.kids[i].s)/\w.cell? ⟨ga,oa+i*3+2,none⟩=some (.slice xa n.kids[i].kids.length ka) /\
  (∀(dp' sg':Nat) W,dp'<=20->sg'<=3->Below w.heap.size w W->Calls Tryz.prog 32 #[.agg #[.int .i64 n.kids[i].k,.int .i64 n.kids[i].s,.slice xa n.kids[i].kids.length ka],.int .i64 (dp':Int),.int .i64 (sg':Int),.int .i64 (b:Int)] W λe w''=>e = .returned (.bool (frN f dp' sg' b n.kids[i]))/\Below W.heap.size W w'')) :
 Calls Tryz.prog 32 #[.agg #[.int .i64 n.k,.int .i64 n.s,.slice za n.kids.length ca],.int .i64 (dp:Int),.int .i64 (sg:Int),.int .i64 (b:Int)] w λe w'=>e = .returned (.bool q)/\Below w.heap.size w w':=by
 have HHR:Hid (∀i,(h:i<n.kids.length)->n.kids.length<=ca/\∃(ga oa:Nat) (xa:Option Addr) (ka:Nat) (yk ys:Int) (yl:Nat),yk=n.kids[i].k/\za=some ⟨ga,oa,none⟩/\ga<w.heap.size/\w.cell? ⟨ga,oa+i*3,none⟩=some (.int .i64 yk)/\w.cell? ⟨ga,oa+i*3+1,none⟩=some (.int .i64 ys)/\w.cell? ⟨ga,oa+i*3+2,none⟩=some (.slice xa yl ka) /\
  (∀(dp' sg':Nat) W,dp'<=20->sg'<=3->Below w.heap.size w W->Calls Tryz.prog 32 #[.agg #[.int .i64 yk,.int .i64 ys,.slice xa yl ka],.int .i64 (dp':Int),.int .i64 (sg':Int),.int .i64 (b:Int)] W λe w''=>e = .returned (.bool (frN f dp' sg' b n.kids[i]))/\Below W.heap.size W w'')):=λi hi=>by
  obtain ⟨h1,ga,oa,xa,ka,h⟩:=HR i hi;exact ⟨h1,ga,oa,xa,ka,_,_,_,rfl,h⟩
 have HQ1:Hid (n.k=1->q=(n.kids.isEmpty&&inS b n.s)):=hq1;have HQ2:Hid (n.k≠1->okH sg n=false->q=false):=hq2;have HQ3:Hid (n.k≠1->okH sg n=true->q=allF f dp (sgs sg n.k) b n.k n.kids):=hq3;obtain ⟨len,hle⟩ :∃len,len=n.kids.length:=⟨_,rfl⟩;obtain ⟨nk,hnk⟩ :∃x,x=n.k:=⟨_,rfl⟩;obtain ⟨ns,hns⟩ :∃x,x=n.s:=⟨_,rfl⟩;rw [<- hle,<- hnk,<- hns];have HLEN:Hid (len=n.kids.length/\nk=n.k/\ns=n.s):=⟨hle,hnk,hns⟩;have HOK:Hid (okH sg n=(ns==0&&decide (sgs sg nk<=3)&&hasP nk len)):=by show _=_;rw [hle,hnk,hns];rfl
 have hlen':len<=3100:=by omega
 have HB0:Hid (Below w.heap.size w (w.alloc (.cells #[.int .i64 nk,.int .i64 ns,.slice za len ca] 39))):=below_alloc _ _;have HEA:Hid ((w.alloc (.cells #[.int .i64 nk,.int .i64 ns,.slice za len ca] 39)).heap[w.heap.size]? = some (.cells #[.int .i64 nk,.int .i64 ns,.slice za len ca] 39 (0,0))):=heap_new' w _;clear HR hq1 hq2 hq3 hle hnk hns hlen;by_cases hk1:nk=1
 · have hk1':(nk==1)=true:=by simpa using hk1
   have HE:Hid (q=(decide (len=0)&&(decide (0<=ns)&&decide (ns<(b:Int))))):=by
    show _=_;rw [HQ1.out (by rw [<- HLEN.out.2.1];exact hk1),HLEN.out.2.2,HLEN.out.1];cases n.kids<;>simp [inS]
   by_cases h0:len=0
   · subst h0;by_cases hs:0<=ns
     · have hs':decide (ns ≥ 0)=true:=by simpa using hs
       have HE2:Hid (q=decide (ns<(b:Int))):=by show _=_;rw [HE.out];simp [hs]
       clear hk1;go_enter Tryz.func32,Tryz.ntmps32;go_wp2;go_ret;rw [HE2.out];exact ⟨by first | rfl | simp,HB0.out⟩
     · have hs':decide (ns ≥ 0)=false:=by simpa using hs
       have HE2:Hid (q=false):=by show _=_;rw [HE.out];simp [hs]
       clear hk1;go_enter Tryz.func32,Tryz.ntmps32;go_wp2;go_ret;rw [HE2.out];exact ⟨rfl,HB0.out⟩
   · have h0':((len:Int)==0)=false:=by simp;omega
     have HE2:Hid (q=false):=by show _=_;rw [HE.out];simp [h0]
     clear hk1;go_enter Tryz.func32,Tryz.ntmps32;go_wp2;go_ret;rw [HE2.out];exact ⟨rfl,HB0.out⟩
 have hk1':(nk==1)=false:=by simpa using hk1
 have HK1:Hid (n.k≠1):=by show _≠_;rw [<- HLEN.out.2.1];exact hk1
 by_cases hn0:ns≠0
 · have hn0':(ns != 0)=true:=by simpa using hn0
   have hn1:(ns==0)=false:=by simpa using hn0
   have HE:Hid (q=false):=HQ2.out HK1.out (by rw [HOK.out,hn1];rfl);clear hn0 hn1 hk1;go_enter Tryz.func32,Tryz.ntmps32;go_wp2;go_ret;rw [HE.out];exact ⟨rfl,HB0.out⟩
 have hn0:ns=0:=Decidable.not_not.1 hn0;subst hn0;have hsg1:=λW=>rsigned_any ⟨nk,0,[]⟩ (.slice za len ca) ⟨_,_,_,rfl⟩ W;by_cases hk0:nk=0
 · subst hk0;have hsK:signK 0=false:=rfl;rw [hsK] at hsg1;have hs3n:0<=3:=by omega
   by_cases hl1:len=1
   · have HE:Hid (q=false):=HQ2.out HK1.out (by rw [HOK.out,hl1];simp [hasP]);subst hl1;clear hsg1 hk1;go_enter Tryz.func32,Tryz.ntmps32;go_wp2;go_ret;rw [HE.out];exact ⟨rfl,HB0.out⟩
   · have hl1':((len:Int)==1)=false:=by simp;omega
     have hl2:(len != 1)=true:=by simpa using hl1
     have HE:Hid (q=allF f dp 0 b 0 n.kids):=by
      have h5:=HQ3.out HK1.out (by rw [HOK.out];simp [sgs,hsK,hasP,hl2]);rw [<- HLEN.out.2.1] at h5;exact h5
     clear hl1 hl2 hk1 hsK;have HEA0:Hid ((w.alloc (.cells #[.int .i64 0,.int .i64 0,.slice za len ca] 39)).heap[w.heap.size]? = some (.cells #[.int .i64 0,.int .i64 0,.slice za len ca] 39 (0,0))):=HEA;go_enter Tryz.func32,Tryz.ntmps32;have HB1:Hid (Below w.heap.size w (w.alloc (.cells #[.int .i64 0,.int .i64 0,.slice za len ca] 39))):=HB0;have HE1:Hid ((w.alloc (.cells #[.int .i64 0,.int .i64 0,.slice za len ca] 39)).heap[w.heap.size]? = some (.cells #[.int .i64 0,.int .i64 0,.slice za len ca] 39 (0,0))):=HEA0
     go_wp2_with fail
     refine (hsg1 _).mono ?_;rintro e w2 ⟨rfl,hB2⟩;have HB2:Hid (Below w.heap.size w w2):=below_after HB1.out hB2;have HE2:Hid (w2.heap[w.heap.size]? = some (.cells #[.int .i64 0,.int .i64 0,.slice za len ca] 39 (0,0))):=(hB2.block _ (by simp)).trans HE1.out;clear hB2 hsg1;go_wp2
     go_loopw [10] (λx wr=>∃(j:Nat),j<=len/\x = .int .i64 (j:Int)/\Hid (q=allF f dp (0) b 0 (n.kids.drop j))/\wr.heap[w.heap.size]? = some (.cells #[.int .i64 0,.int .i64 0,.slice za len ca] 39 (0,0))/\Below w.heap.size w wr) (λx _=>len-(intOf x).toNat)
     case atStart=>exact ⟨0,Nat.zero_le _,rfl,(show _=_ by rw [List.drop_zero];exact HE.out),HE2.out,HB2.out⟩
     case round =>
      obtain ⟨j,hj,rfl,HD,hEA,hB⟩:=hrel;have hlt:w.heap.size<wr.heap.size:=(Array.getElem?_eq_some_iff.1 hEA).1;have a0:wr.cell? ⟨w.heap.size,0,none⟩=some (.int .i64 0):=cell_of_row _ _ 0 _ _ _ hEA;have a1:wr.cell? ⟨w.heap.size,1,none⟩=some (.int .i64 0):=cell_of_row _ _ 1 _ _ _ hEA;have a2:wr.cell? ⟨w.heap.size,2,none⟩=some (.slice za len ca):=cell_of_row _ _ 2 _ _ _ hEA;have HEA':Hid (wr.heap[w.heap.size]? = some (.cells #[.int .i64 0,.int .i64 0,.slice za len ca] 39 (0,0))):=hEA;clear hEA;by_cases hjl:j<len
      · have hjn:j<n.kids.length:=by rw [<- HLEN.out.1];exact hjl
        obtain ⟨hca,ga,oa,xa,ka,yk,ys,yl,hyk,rfl,hga,p0,p1,p2,hcall⟩:=HHR.out j hjn;have r0:wr.cell? ⟨ga,oa+j*3,none⟩=some (.int .i64 yk):=(hB.cell (p:=⟨ga,_,none⟩) hga).trans p0;have r1:wr.cell? ⟨ga,oa+j*3+1,none⟩=some (.int .i64 ys):=(hB.cell (p:=⟨ga,_,none⟩) hga).trans p1;have r2:wr.cell? ⟨ga,oa+j*3+2,none⟩=some (.slice xa yl ka):=(hB.cell (p:=⟨ga,_,none⟩) hga).trans p2;have hga':ga<wr.heap.size:=Nat.lt_of_lt_of_le hga hB.size;have hj0:(0:Int)<=(j:Int):=by omega
        have hj1:(j:Int)<(len:Int):=by omega
        have hca2:len<=ca:=by rw [HLEN.out.1];exact hca
        have ed:n.kids.drop j=n.kids[j]::n.kids.drop (j+1):=List.drop_eq_getElem_cons hjn;have HD1:Hid (q=(decide (dp+brN yk (0)<=20)&&frN f (dp+brN yk (0)) (0) b n.kids[j]&&allF f dp (0) b (0) (n.kids.drop (j+1)))):=by
         show _=_;rw [HD.out,ed,hyk];rfl
        have HCALL:Hid (∀(dp':Nat) W,dp'<=20->Below w.heap.size w W->Calls Tryz.prog 32 #[.agg #[.int .i64 yk,.int .i64 ys,.slice xa yl ka],.int .i64 (dp':Int),.int .i64 ((0:Nat):Int),.int .i64 (b:Int)] W λe w''=>e = .returned (.bool (frN f dp' (0) b n.kids[j]))/\Below W.heap.size W w''):=λdp' W h1 h2=>hcall dp' (0) W h1 hs3n h2;have HOP:Hid (∀W,Calls Tryz.prog 58 #[.agg #[.int .i64 (0),.int .i64 0,.slice (some ⟨ga,oa,none⟩) len ca],.agg #[.int .i64 yk,.int .i64 ys,.slice xa yl ka]] W λe w'=>e = .returned (.bool (inBr yk (0)))/\Below W.heap.size W w'):=λW=>open_any8 (0) 0 (some ⟨ga,oa,none⟩) len ca yk ys xa yl ka W;have HKP:Hid (∀W,Below wr.heap.size wr W->W.cell? ⟨w.heap.size,0,none⟩=some (.int .i64 (0))/\W.cell? ⟨w.heap.size,1,none⟩=some (.int .i64 0)/\W.cell? ⟨w.heap.size,2,none⟩=some (.slice (some ⟨ga,oa,none⟩) len ca)/\W.cell? ⟨ga,oa+j*3,none⟩=some (.int .i64 yk)/\W.cell? ⟨ga,oa+j*3+1,none⟩=some (.int .i64 ys)/\W.cell? ⟨ga,oa+j*3+2,none⟩=some (.slice xa yl ka)):=λW hk=>⟨(hk.cell (p:=⟨_,_,none⟩) hlt).trans a0,(hk.cell (p:=⟨_,_,none⟩) hlt).trans a1,(hk.cell (p:=⟨_,_,none⟩) hlt).trans a2,(hk.cell (p:=⟨ga,_,none⟩) hga').trans r0,(hk.cell (p:=⟨ga,_,none⟩) hga').trans r1,(hk.cell (p:=⟨ga,_,none⟩) hga').trans r2⟩;have HKEEP:Hid (∀W,Below (wr.drewN 1).heap.size (wr.drewN 1) W->W.cell? ⟨w.heap.size,0,none⟩=some (.int .i64 (0))/\W.cell? ⟨w.heap.size,1,none⟩=some (.int .i64 0)/\W.cell? ⟨w.heap.size,2,none⟩=some (.slice (some ⟨ga,oa,none⟩) len ca)/\W.cell? ⟨ga,oa+j*3,none⟩=some (.int .i64 yk)/\W.cell? ⟨ga,oa+j*3+1,none⟩=some (.int .i64 ys)/\W.cell? ⟨ga,oa+j*3+2,none⟩=some (.slice xa yl ka)):=λW hW=>HKP.out W ((below_drewN' (Below.refl _ _) 1).trans hW);clear p0 p1 p2 hcall hca ed hyk HD;cases hbr:inBr yk (0) with
        | false =>
         have hbn:brN yk (0)=0:=by simp [brN,hbr]
         rw [hbn] at HD1;rw [hbr] at HOP;clear hbn hbr;go_wp2
         go_region_held3 (λw'=>w'.cell? ⟨w.heap.size,0,none⟩=some (.int .i64 (0))/\w'.cell? ⟨w.heap.size,1,none⟩=some (.int .i64 0)/\w'.cell? ⟨w.heap.size,2,none⟩=some (.slice (some ⟨ga,oa,none⟩) len ca)/\w'.cell? ⟨ga,oa+j*3,none⟩=some (.int .i64 yk)/\w'.cell? ⟨ga,oa+j*3+1,none⟩=some (.int .i64 ys)/\w'.cell? ⟨ga,oa+j*3+2,none⟩=some (.slice xa yl ka)) (first | exact HKEEP.out _ hB1 | go_keep) ((go_at_call 58;refine (HOP.out _).mono ?_;rintro e w3 ⟨rfl,hB1⟩))
         have hk3:Below wr.heap.size wr w3:=(below_drewN' (Below.refl _ _) 1).trans hB1;obtain ⟨b0,b1,b2,s0,s1,s2⟩:=HKP.out _ hk3;have hs3:=hk3.size;have hga3:ga<w3.heap.size:=by omega
         have hlt3:w.heap.size<w3.heap.size:=by omega
         have HB3:Hid (Below w.heap.size w w3):=below_after hB hk3;have HE3:Hid (w3.heap[w.heap.size]? = some (.cells #[.int .i64 0,.int .i64 0,.slice (some ⟨ga,oa,none⟩) len ca] 39 (0,0))):=(hk3.block _ hlt).trans HEA'.out;clear hB1 hk3 hs3;by_cases hdp2:20<dp+0
         · omega
         · have hdp3:decide ((dp:Int) > 20)=false:=by simp;omega
           have hdp4:decide (dp+0<=20)=true:=by simp;omega
           have hcl:Calls Tryz.prog 32 #[.agg #[.int .i64 yk,.int .i64 ys,.slice xa yl ka],.int .i64 (dp:Int),.int .i64 0,.int .i64 (b:Int)] w3 λe w''=>e = .returned (.bool (frN f (dp+0) (0) b n.kids[j]))/\Below w3.heap.size w3 w'':=HCALL.out (dp+0) w3 (by omega) HB3.out;obtain ⟨qk,hqk⟩ :∃x,x=frN f (dp+0) (0) b n.kids[j]:=⟨_,rfl⟩;rw [<- hqk] at hcl;have HD2:Hid (q=(qk&&allF f dp (0) b (0) (n.kids.drop (j+1)))):=by show _=_;rw [HD1.out,hdp4,hqk,Bool.true_and]
           clear hdp4 hqk HD1
           go_wp2_with fail
           refine hcl.mono ?_;rintro e w4 ⟨rfl,hB4⟩;clear hcl;have HB4:Hid (Below w.heap.size w w4):=below_after HB3.out hB4;have HE4:Hid (w4.heap[w.heap.size]? = some (.cells #[.int .i64 0,.int .i64 0,.slice (some ⟨ga,oa,none⟩) len ca] 39 (0,0))):=(hB4.block _ hlt3).trans HE3.out;clear hB4;cases hq:qk with
           | false =>
            have HF:Hid (q=false):=by show _=_;rw [HD2.out,hq];rfl
            clear hq;go_wp2;go_ret;rw [HF.out];exact ⟨rfl,HB4.out⟩
           | true =>
            have HF:Hid (q=allF f dp (0) b (0) (n.kids.drop (j+1))):=by show _=_;rw [HD2.out,hq,Bool.true_and]
            clear hq;go_wp2
            go_roundw
            case rel=>exact ⟨j+1,by omega,by go_num,HF,HE4.out,HB4.out⟩
            case measure=>simp [intOf];omega
        | true =>
         have hbn:brN yk (0)=1:=by simp [brN,hbr]
         rw [hbn] at HD1;rw [hbr] at HOP;clear hbn hbr;go_wp2
         go_region_held3 (λw'=>w'.cell? ⟨w.heap.size,0,none⟩=some (.int .i64 (0))/\w'.cell? ⟨w.heap.size,1,none⟩=some (.int .i64 0)/\w'.cell? ⟨w.heap.size,2,none⟩=some (.slice (some ⟨ga,oa,none⟩) len ca)/\w'.cell? ⟨ga,oa+j*3,none⟩=some (.int .i64 yk)/\w'.cell? ⟨ga,oa+j*3+1,none⟩=some (.int .i64 ys)/\w'.cell? ⟨ga,oa+j*3+2,none⟩=some (.slice xa yl ka)) (first | exact HKEEP.out _ hB1 | go_keep) ((go_at_call 58;refine (HOP.out _).mono ?_;rintro e w3 ⟨rfl,hB1⟩))
         have hk3:Below wr.heap.size wr w3:=(below_drewN' (Below.refl _ _) 1).trans hB1;obtain ⟨b0,b1,b2,s0,s1,s2⟩:=HKP.out _ hk3;have hs3:=hk3.size;have hga3:ga<w3.heap.size:=by omega
         have hlt3:w.heap.size<w3.heap.size:=by omega
         have HB3:Hid (Below w.heap.size w w3):=below_after hB hk3;have HE3:Hid (w3.heap[w.heap.size]? = some (.cells #[.int .i64 0,.int .i64 0,.slice (some ⟨ga,oa,none⟩) len ca] 39 (0,0))):=(hk3.block _ hlt).trans HEA'.out;clear hB1 hk3 hs3;by_cases hdp2:20<dp+1
         · have hdp3:decide (((dp:Int)+1) > 20)=true:=by simp;omega
           have hdp4:decide (dp+1<=20)=false:=by simp;omega
           have HF:Hid (q=false):=by show _=_;rw [HD1.out,hdp4];rfl
           clear hdp4;go_wp2;go_ret;rw [HF.out];exact ⟨rfl,HB3.out⟩
         · have hdp3:decide (((dp:Int)+1) > 20)=false:=by simp;omega
           have hdp4:decide (dp+1<=20)=true:=by simp;omega
           have hcl:Calls Tryz.prog 32 #[.agg #[.int .i64 yk,.int .i64 ys,.slice xa yl ka],.int .i64 ((dp:Int)+1),.int .i64 0,.int .i64 (b:Int)] w3 λe w''=>e = .returned (.bool (frN f (dp+1) (0) b n.kids[j]))/\Below w3.heap.size w3 w'':=HCALL.out (dp+1) w3 (by omega) HB3.out;obtain ⟨qk,hqk⟩ :∃x,x=frN f (dp+1) (0) b n.kids[j]:=⟨_,rfl⟩;rw [<- hqk] at hcl;have HD2:Hid (q=(qk&&allF f dp (0) b (0) (n.kids.drop (j+1)))):=by show _=_;rw [HD1.out,hdp4,hqk,Bool.true_and]
           clear hdp4 hqk HD1
           go_wp2_with fail
           refine hcl.mono ?_;rintro e w4 ⟨rfl,hB4⟩;clear hcl;have HB4:Hid (Below w.heap.size w w4):=below_after HB3.out hB4;have HE4:Hid (w4.heap[w.heap.size]? = some (.cells #[.int .i64 0,.int .i64 0,.slice (some ⟨ga,oa,none⟩) len ca] 39 (0,0))):=(hB4.block _ hlt3).trans HE3.out;clear hB4;cases hq:qk with
           | false =>
            have HF:Hid (q=false):=by show _=_;rw [HD2.out,hq];rfl
            clear hq;go_wp2;go_ret;rw [HF.out];exact ⟨rfl,HB4.out⟩
           | true =>
            have HF:Hid (q=allF f dp (0) b (0) (n.kids.drop (j+1))):=by show _=_;rw [HD2.out,hq,Bool.true_and]
            clear hq;go_wp2
            go_roundw
            case rel=>exact ⟨j+1,by omega,by go_num,HF,HE4.out,HB4.out⟩
            case measure=>simp [intOf];omega
      · have HF:Hid (q=true):=by
         show _=_;rw [HD.out,List.drop_eq_nil_of_le (by rw [<- HLEN.out.1];omega)];rfl
        go_wp2;go_ret;rw [HF.out];exact ⟨rfl,hB⟩
 by_cases hk2:nk=2
 · subst hk2;have hsK:signK 2=false:=rfl;rw [hsK] at hsg1;have hs3n:0<=3:=by omega
   by_cases hl1:len<2
   · have hl2:decide (2<=len)=false:=by simp;omega
     have HE:Hid (q=false):=HQ2.out HK1.out (by rw [HOK.out];simp [hasP,hl2]);have hl1':decide ((len:Int)<2)=true:=by simp;omega
     clear hsg1 hk1 hk0 hl2;go_enter Tryz.func32,Tryz.ntmps32;go_wp2;go_ret;rw [HE.out];exact ⟨rfl,HB0.out⟩
   · have hl1':decide ((len:Int)<2)=false:=by simp;omega
     have hl2:decide (2<=len)=true:=by simp;omega
     have HE:Hid (q=allF f dp 0 b 2 n.kids):=by
      have h5:=HQ3.out HK1.out (by rw [HOK.out];simp [sgs,hsK,hasP,hl2]);rw [<- HLEN.out.2.1] at h5;exact h5
     clear hl2 hk1 hk0 hsK;have HEA0:Hid ((w.alloc (.cells #[.int .i64 2,.int .i64 0,.slice za len ca] 39)).heap[w.heap.size]? = some (.cells #[.int .i64 2,.int .i64 0,.slice za len ca] 39 (0,0))):=HEA;go_enter Tryz.func32,Tryz.ntmps32;have HB1:Hid (Below w.heap.size w (w.alloc (.cells #[.int .i64 2,.int .i64 0,.slice za len ca] 39))):=HB0;have HE1:Hid ((w.alloc (.cells #[.int .i64 2,.int .i64 0,.slice za len ca] 39)).heap[w.heap.size]? = some (.cells #[.int .i64 2,.int .i64 0,.slice za len ca] 39 (0,0))):=HEA0
     go_wp2_with fail
     refine (hsg1 _).mono ?_;rintro e w2 ⟨rfl,hB2⟩;have HB2:Hid (Below w.heap.size w w2):=below_after HB1.out hB2;have HE2:Hid (w2.heap[w.heap.size]? = some (.cells #[.int .i64 2,.int .i64 0,.slice za len ca] 39 (0,0))):=(hB2.block _ (by simp)).trans HE1.out;clear hB2 hsg1;go_wp2
     go_loopw [10] (λx wr=>∃(j:Nat),j<=len/\x = .int .i64 (j:Int)/\Hid (q=allF f dp (0) b 2 (n.kids.drop j))/\wr.heap[w.heap.size]? = some (.cells #[.int .i64 2,.int .i64 0,.slice za len ca] 39 (0,0))/\Below w.heap.size w wr) (λx _=>len-(intOf x).toNat)
     case atStart=>exact ⟨0,Nat.zero_le _,rfl,(show _=_ by rw [List.drop_zero];exact HE.out),HE2.out,HB2.out⟩
     case round =>
      obtain ⟨j,hj,rfl,HD,hEA,hB⟩:=hrel;have hlt:w.heap.size<wr.heap.size:=(Array.getElem?_eq_some_iff.1 hEA).1;have a0:wr.cell? ⟨w.heap.size,0,none⟩=some (.int .i64 2):=cell_of_row _ _ 0 _ _ _ hEA;have a1:wr.cell? ⟨w.heap.size,1,none⟩=some (.int .i64 0):=cell_of_row _ _ 1 _ _ _ hEA;have a2:wr.cell? ⟨w.heap.size,2,none⟩=some (.slice za len ca):=cell_of_row _ _ 2 _ _ _ hEA;have HEA':Hid (wr.heap[w.heap.size]? = some (.cells #[.int .i64 2,.int .i64 0,.slice za len ca] 39 (0,0))):=hEA;clear hEA;by_cases hjl:j<len
      · have hjn:j<n.kids.length:=by rw [<- HLEN.out.1];exact hjl
        obtain ⟨hca,ga,oa,xa,ka,yk,ys,yl,hyk,rfl,hga,p0,p1,p2,hcall⟩:=HHR.out j hjn;have r0:wr.cell? ⟨ga,oa+j*3,none⟩=some (.int .i64 yk):=(hB.cell (p:=⟨ga,_,none⟩) hga).trans p0;have r1:wr.cell? ⟨ga,oa+j*3+1,none⟩=some (.int .i64 ys):=(hB.cell (p:=⟨ga,_,none⟩) hga).trans p1;have r2:wr.cell? ⟨ga,oa+j*3+2,none⟩=some (.slice xa yl ka):=(hB.cell (p:=⟨ga,_,none⟩) hga).trans p2;have hga':ga<wr.heap.size:=Nat.lt_of_lt_of_le hga hB.size;have hj0:(0:Int)<=(j:Int):=by omega
        have hj1:(j:Int)<(len:Int):=by omega
        have hca2:len<=ca:=by rw [HLEN.out.1];exact hca
        have ed:n.kids.drop j=n.kids[j]::n.kids.drop (j+1):=List.drop_eq_getElem_cons hjn;have HD1:Hid (q=(decide (dp+brN yk (2)<=20)&&frN f (dp+brN yk (2)) (0) b n.kids[j]&&allF f dp (0) b (2) (n.kids.drop (j+1)))):=by
         show _=_;rw [HD.out,ed,hyk];rfl
        have HCALL:Hid (∀(dp':Nat) W,dp'<=20->Below w.heap.size w W->Calls Tryz.prog 32 #[.agg #[.int .i64 yk,.int .i64 ys,.slice xa yl ka],.int .i64 (dp':Int),.int .i64 ((0:Nat):Int),.int .i64 (b:Int)] W λe w''=>e = .returned (.bool (frN f dp' (0) b n.kids[j]))/\Below W.heap.size W w''):=λdp' W h1 h2=>hcall dp' (0) W h1 hs3n h2;have HOP:Hid (∀W,Calls Tryz.prog 58 #[.agg #[.int .i64 (2),.int .i64 0,.slice (some ⟨ga,oa,none⟩) len ca],.agg #[.int .i64 yk,.int .i64 ys,.slice xa yl ka]] W λe w'=>e = .returned (.bool (inBr yk (2)))/\Below W.heap.size W w'):=λW=>open_any8 (2) 0 (some ⟨ga,oa,none⟩) len ca yk ys xa yl ka W;have HKP:Hid (∀W,Below wr.heap.size wr W->W.cell? ⟨w.heap.size,0,none⟩=some (.int .i64 (2))/\W.cell? ⟨w.heap.size,1,none⟩=some (.int .i64 0)/\W.cell? ⟨w.heap.size,2,none⟩=some (.slice (some ⟨ga,oa,none⟩) len ca)/\W.cell? ⟨ga,oa+j*3,none⟩=some (.int .i64 yk)/\W.cell? ⟨ga,oa+j*3+1,none⟩=some (.int .i64 ys)/\W.cell? ⟨ga,oa+j*3+2,none⟩=some (.slice xa yl ka)):=λW hk=>⟨(hk.cell (p:=⟨_,_,none⟩) hlt).trans a0,(hk.cell (p:=⟨_,_,none⟩) hlt).trans a1,(hk.cell (p:=⟨_,_,none⟩) hlt).trans a2,(hk.cell (p:=⟨ga,_,none⟩) hga').trans r0,(hk.cell (p:=⟨ga,_,none⟩) hga').trans r1,(hk.cell (p:=⟨ga,_,none⟩) hga').trans r2⟩;have HKEEP:Hid (∀W,Below (wr.drewN 1).heap.size (wr.drewN 1) W->W.cell? ⟨w.heap.size,0,none⟩=some (.int .i64 (2))/\W.cell? ⟨w.heap.size,1,none⟩=some (.int .i64 0)/\W.cell? ⟨w.heap.size,2,none⟩=some (.slice (some ⟨ga,oa,none⟩) len ca)/\W.cell? ⟨ga,oa+j*3,none⟩=some (.int .i64 yk)/\W.cell? ⟨ga,oa+j*3+1,none⟩=some (.int .i64 ys)/\W.cell? ⟨ga,oa+j*3+2,none⟩=some (.slice xa yl ka)):=λW hW=>HKP.out W ((below_drewN' (Below.refl _ _) 1).trans hW);clear p0 p1 p2 hcall hca ed hyk HD;cases hbr:inBr yk (2) with
        | false =>
         have hbn:brN yk (2)=0:=by simp [brN,hbr]
         rw [hbn] at HD1;rw [hbr] at HOP;clear hbn hbr;go_wp2
         go_region_held3 (λw'=>w'.cell? ⟨w.heap.size,0,none⟩=some (.int .i64 (2))/\w'.cell? ⟨w.heap.size,1,none⟩=some (.int .i64 0)/\w'.cell? ⟨w.heap.size,2,none⟩=some (.slice (some ⟨ga,oa,none⟩) len ca)/\w'.cell? ⟨ga,oa+j*3,none⟩=some (.int .i64 yk)/\w'.cell? ⟨ga,oa+j*3+1,none⟩=some (.int .i64 ys)/\w'.cell? ⟨ga,oa+j*3+2,none⟩=some (.slice xa yl ka)) (first | exact HKEEP.out _ hB1 | go_keep) ((go_at_call 58;refine (HOP.out _).mono ?_;rintro e w3 ⟨rfl,hB1⟩))
         have hk3:Below wr.heap.size wr w3:=(below_drewN' (Below.refl _ _) 1).trans hB1;obtain ⟨b0,b1,b2,s0,s1,s2⟩:=HKP.out _ hk3;have hs3:=hk3.size;have hga3:ga<w3.heap.size:=by omega
         have hlt3:w.heap.size<w3.heap.size:=by omega
         have HB3:Hid (Below w.heap.size w w3):=below_after hB hk3;have HE3:Hid (w3.heap[w.heap.size]? = some (.cells #[.int .i64 2,.int .i64 0,.slice (some ⟨ga,oa,none⟩) len ca] 39 (0,0))):=(hk3.block _ hlt).trans HEA'.out;clear hB1 hk3 hs3;by_cases hdp2:20<dp+0
         · omega
         · have hdp3:decide ((dp:Int) > 20)=false:=by simp;omega
           have hdp4:decide (dp+0<=20)=true:=by simp;omega
           have hcl:Calls Tryz.prog 32 #[.agg #[.int .i64 yk,.int .i64 ys,.slice xa yl ka],.int .i64 (dp:Int),.int .i64 0,.int .i64 (b:Int)] w3 λe w''=>e = .returned (.bool (frN f (dp+0) (0) b n.kids[j]))/\Below w3.heap.size w3 w'':=HCALL.out (dp+0) w3 (by omega) HB3.out;obtain ⟨qk,hqk⟩ :∃x,x=frN f (dp+0) (0) b n.kids[j]:=⟨_,rfl⟩;rw [<- hqk] at hcl;have HD2:Hid (q=(qk&&allF f dp (0) b (2) (n.kids.drop (j+1)))):=by show _=_;rw [HD1.out,hdp4,hqk,Bool.true_and]
           clear hdp4 hqk HD1
           go_wp2_with fail
           refine hcl.mono ?_;rintro e w4 ⟨rfl,hB4⟩;clear hcl;have HB4:Hid (Below w.heap.size w w4):=below_after HB3.out hB4;have HE4:Hid (w4.heap[w.heap.size]? = some (.cells #[.int .i64 2,.int .i64 0,.slice (some ⟨ga,oa,none⟩) len ca] 39 (0,0))):=(hB4.block _ hlt3).trans HE3.out;clear hB4;cases hq:qk with
           | false =>
            have HF:Hid (q=false):=by show _=_;rw [HD2.out,hq];rfl
            clear hq;go_wp2;go_ret;rw [HF.out];exact ⟨rfl,HB4.out⟩
           | true =>
            have HF:Hid (q=allF f dp (0) b (2) (n.kids.drop (j+1))):=by show _=_;rw [HD2.out,hq,Bool.true_and]
            clear hq;go_wp2
            go_roundw
            case rel=>exact ⟨j+1,by omega,by go_num,HF,HE4.out,HB4.out⟩
            case measure=>simp [intOf];omega
        | true =>
         have hbn:brN yk (2)=1:=by simp [brN,hbr]
         rw [hbn] at HD1;rw [hbr] at HOP;clear hbn hbr;go_wp2
         go_region_held3 (λw'=>w'.cell? ⟨w.heap.size,0,none⟩=some (.int .i64 (2))/\w'.cell? ⟨w.heap.size,1,none⟩=some (.int .i64 0)/\w'.cell? ⟨w.heap.size,2,none⟩=some (.slice (some ⟨ga,oa,none⟩) len ca)/\w'.cell? ⟨ga,oa+j*3,none⟩=some (.int .i64 yk)/\w'.cell? ⟨ga,oa+j*3+1,none⟩=some (.int .i64 ys)/\w'.cell? ⟨ga,oa+j*3+2,none⟩=some (.slice xa yl ka)) (first | exact HKEEP.out _ hB1 | go_keep) ((go_at_call 58;refine (HOP.out _).mono ?_;rintro e w3 ⟨rfl,hB1⟩))
         have hk3:Below wr.heap.size wr w3:=(below_drewN' (Below.refl _ _) 1).trans hB1;obtain ⟨b0,b1,b2,s0,s1,s2⟩:=HKP.out _ hk3;have hs3:=hk3.size;have hga3:ga<w3.heap.size:=by omega
         have hlt3:w.heap.size<w3.heap.size:=by omega
         have HB3:Hid (Below w.heap.size w w3):=below_after hB hk3;have HE3:Hid (w3.heap[w.heap.size]? = some (.cells #[.int .i64 2,.int .i64 0,.slice (some ⟨ga,oa,none⟩) len ca] 39 (0,0))):=(hk3.block _ hlt).trans HEA'.out;clear hB1 hk3 hs3;by_cases hdp2:20<dp+1
         · have hdp3:decide (((dp:Int)+1) > 20)=true:=by simp;omega
           have hdp4:decide (dp+1<=20)=false:=by simp;omega
           have HF:Hid (q=false):=by show _=_;rw [HD1.out,hdp4];rfl
           clear hdp4;go_wp2;go_ret;rw [HF.out];exact ⟨rfl,HB3.out⟩
         · have hdp3:decide (((dp:Int)+1) > 20)=false:=by simp;omega
           have hdp4:decide (dp+1<=20)=true:=by simp;omega
           have hcl:Calls Tryz.prog 32 #[.agg #[.int .i64 yk,.int .i64 ys,.slice xa yl ka],.int .i64 ((dp:Int)+1),.int .i64 0,.int .i64 (b:Int)] w3 λe w''=>e = .returned (.bool (frN f (dp+1) (0) b n.kids[j]))/\Below w3.heap.size w3 w'':=HCALL.out (dp+1) w3 (by omega) HB3.out;obtain ⟨qk,hqk⟩ :∃x,x=frN f (dp+1) (0) b n.kids[j]:=⟨_,rfl⟩;rw [<- hqk] at hcl;have HD2:Hid (q=(qk&&allF f dp (0) b (2) (n.kids.drop (j+1)))):=by show _=_;rw [HD1.out,hdp4,hqk,Bool.true_and]
           clear hdp4 hqk HD1
           go_wp2_with fail
           refine hcl.mono ?_;rintro e w4 ⟨rfl,hB4⟩;clear hcl;have HB4:Hid (Below w.heap.size w w4):=below_after HB3.out hB4;have HE4:Hid (w4.heap[w.heap.size]? = some (.cells #[.int .i64 2,.int .i64 0,.slice (some ⟨ga,oa,none⟩) len ca] 39 (0,0))):=(hB4.block _ hlt3).trans HE3.out;clear hB4;cases hq:qk with
           | false =>
            have HF:Hid (q=false):=by show _=_;rw [HD2.out,hq];rfl
            clear hq;go_wp2;go_ret;rw [HF.out];exact ⟨rfl,HB4.out⟩
           | true =>
            have HF:Hid (q=allF f dp (0) b (2) (n.kids.drop (j+1))):=by show _=_;rw [HD2.out,hq,Bool.true_and]
            clear hq;go_wp2
            go_roundw
            case rel=>exact ⟨j+1,by omega,by go_num,HF,HE4.out,HB4.out⟩
            case measure=>simp [intOf];omega
      · have HF:Hid (q=true):=by
         show _=_;rw [HD.out,List.drop_eq_nil_of_le (by rw [<- HLEN.out.1];omega)];rfl
        go_wp2;go_ret;rw [HF.out];exact ⟨rfl,hB⟩
 have hk0':(nk==0)=false:=by simpa using hk0
 have hk2':(nk==2)=false:=by simpa using hk2
 cases hsK:signK nk with
 | false =>
  rw [show signK (⟨nk,0,[]⟩:Nd).k=false from hsK] at hsg1;have HE:Hid (q=false):=HQ2.out HK1.out (by rw [HOK.out];simp [hasP,hsK,hk0,hk2]);clear hk1 hk0 hk2 hsK;go_enter Tryz.func32,Tryz.ntmps32
  go_wp2_with fail
  refine (hsg1 _).mono ?_;rintro e w1 ⟨rfl,hB1⟩;have hBB:=below_after HB0.out hB1;clear hsg1;go_wp2;go_ret;rw [HE.out];exact ⟨rfl,hBB⟩
 | true =>
  rw [show signK (⟨nk,0,[]⟩:Nd).k=true from hsK] at hsg1;by_cases hl1:len≠1
  · have hl2:(len==1)=false:=by simpa using hl1
    have hl1':((len:Int) != 1)=true:=by simp;omega
    have HE:Hid (q=false):=HQ2.out HK1.out (by rw [HOK.out];simp [hasP,hk0,hk2,hl2]);clear hk1 hk0 hk2 hsK hl2;go_enter Tryz.func32,Tryz.ntmps32
    go_wp2_with fail
    refine (hsg1 _).mono ?_;rintro e w1 ⟨rfl,hB1⟩;have hBB:=below_after HB0.out hB1;clear hsg1;go_wp2;go_ret;rw [HE.out];exact ⟨rfl,hBB⟩
  have hl1:len=1:=Decidable.not_not.1 hl1;have hl2:(len==1)=true:=by simpa using hl1
  have hl1':((len:Int) != 1)=false:=by simp;omega
  clear hl1;by_cases hs3:3<sg+1
  · have hs3':decide ((sg:Int)+1 > 3)=true:=by simp;omega
    have hs4:decide (sg+1<=3)=false:=by simp;omega
    have HE:Hid (q=false):=HQ2.out HK1.out (by rw [HOK.out];simp only [sgs,hsK,if_true];rw [hs4];rfl);clear hk1 hk0 hk2 hsK hs4 hl2;go_enter Tryz.func32,Tryz.ntmps32
    go_wp2_with fail
    refine (hsg1 _).mono ?_;rintro e w1 ⟨rfl,hB1⟩;have hBB:=below_after HB0.out hB1;clear hsg1;go_wp2;go_ret;rw [HE.out];exact ⟨rfl,hBB⟩
  have hs3n:sg+1<=3:=by omega
  have hs3':decide ((sg:Int)+1 > 3)=false:=by simp;omega
  have HE:Hid (q=allF f dp (sg+1) b nk n.kids):=by
   have h5:=HQ3.out HK1.out (by rw [HOK.out];simp only [sgs,hsK,if_true,hasP,hk0,hk2,if_false,hl2];simp;omega);rw [<- HLEN.out.2.1] at h5;show _=_;simpa only [sgs,hsK,if_true] using h5
  clear hk1 hk0 hk2 hsK hs3 hl2;have HEA0:Hid ((w.alloc (.cells #[.int .i64 nk,.int .i64 0,.slice za len ca] 39)).heap[w.heap.size]? = some (.cells #[.int .i64 nk,.int .i64 0,.slice za len ca] 39 (0,0))):=HEA;go_enter Tryz.func32,Tryz.ntmps32
  go_wp2_with fail
  refine (hsg1 _).mono ?_;rintro e w1 ⟨rfl,hB1⟩;have HB1:Hid (Below w.heap.size w w1):=below_after HB0.out hB1;have hE1:w1.heap[w.heap.size]? = some (.cells #[.int .i64 nk,.int .i64 0,.slice za len ca] 39 (0,0)):=(hB1.block _ (by simp)).trans HEA0.out;have g0:w1.cell? ⟨w.heap.size,0,none⟩=some (.int .i64 nk):=cell_of_row _ _ 0 _ _ _ hE1;have g1:w1.cell? ⟨w.heap.size,1,none⟩=some (.int .i64 0):=cell_of_row _ _ 1 _ _ _ hE1;have g2:w1.cell? ⟨w.heap.size,2,none⟩=some (.slice za len ca):=cell_of_row _ _ 2 _ _ _ hE1;have hl1:w.heap.size<w1.heap.size:=(Array.getElem?_eq_some_iff.1 hE1).1;have HE1:Hid (w1.heap[w.heap.size]? = some (.cells #[.int .i64 nk,.int .i64 0,.slice za len ca] 39 (0,0))):=hE1;clear hB1 hE1
  go_wp2_with fail
  refine (hsg1 _).mono ?_;rintro e w2 ⟨rfl,hB2⟩;have HB2:Hid (Below w.heap.size w w2):=below_after HB1.out hB2;have HE2:Hid (w2.heap[w.heap.size]? = some (.cells #[.int .i64 nk,.int .i64 0,.slice za len ca] 39 (0,0))):=(hB2.block _ hl1).trans HE1.out;clear hB2 hsg1;go_wp2
  go_loopw [10] (λx wr=>∃(j:Nat),j<=len/\x = .int .i64 (j:Int)/\Hid (q=allF f dp (sg+1) b nk (n.kids.drop j))/\wr.heap[w.heap.size]? = some (.cells #[.int .i64 nk,.int .i64 0,.slice za len ca] 39 (0,0))/\Below w.heap.size w wr) (λx _=>len-(intOf x).toNat)
  case atStart=>exact ⟨0,Nat.zero_le _,rfl,(show _=_ by rw [List.drop_zero];exact HE.out),HE2.out,HB2.out⟩
  case round =>
   obtain ⟨j,hj,rfl,HD,hEA,hB⟩:=hrel;have hlt:w.heap.size<wr.heap.size:=(Array.getElem?_eq_some_iff.1 hEA).1;have a0:wr.cell? ⟨w.heap.size,0,none⟩=some (.int .i64 nk):=cell_of_row _ _ 0 _ _ _ hEA;have a1:wr.cell? ⟨w.heap.size,1,none⟩=some (.int .i64 0):=cell_of_row _ _ 1 _ _ _ hEA;have a2:wr.cell? ⟨w.heap.size,2,none⟩=some (.slice za len ca):=cell_of_row _ _ 2 _ _ _ hEA;have HEA':Hid (wr.heap[w.heap.size]? = some (.cells #[.int .i64 nk,.int .i64 0,.slice za len ca] 39 (0,0))):=hEA;clear hEA;by_cases hjl:j<len
   · have hjn:j<n.kids.length:=by rw [<- HLEN.out.1];exact hjl
     obtain ⟨hca,ga,oa,xa,ka,yk,ys,yl,hyk,rfl,hga,p0,p1,p2,hcall⟩:=HHR.out j hjn;have r0:wr.cell? ⟨ga,oa+j*3,none⟩=some (.int .i64 yk):=(hB.cell (p:=⟨ga,_,none⟩) hga).trans p0;have r1:wr.cell? ⟨ga,oa+j*3+1,none⟩=some (.int .i64 ys):=(hB.cell (p:=⟨ga,_,none⟩) hga).trans p1;have r2:wr.cell? ⟨ga,oa+j*3+2,none⟩=some (.slice xa yl ka):=(hB.cell (p:=⟨ga,_,none⟩) hga).trans p2;have hga':ga<wr.heap.size:=Nat.lt_of_lt_of_le hga hB.size;have hj0:(0:Int)<=(j:Int):=by omega
     have hj1:(j:Int)<(len:Int):=by omega
     have hca2:len<=ca:=by rw [HLEN.out.1];exact hca
     have ed:n.kids.drop j=n.kids[j]::n.kids.drop (j+1):=List.drop_eq_getElem_cons hjn;have HD1:Hid (q=(decide (dp+brN yk (nk)<=20)&&frN f (dp+brN yk (nk)) (sg+1) b n.kids[j]&&allF f dp (sg+1) b (nk) (n.kids.drop (j+1)))):=by
      show _=_;rw [HD.out,ed,hyk];rfl
     have HCALL:Hid (∀(dp':Nat) W,dp'<=20->Below w.heap.size w W->Calls Tryz.prog 32 #[.agg #[.int .i64 yk,.int .i64 ys,.slice xa yl ka],.int .i64 (dp':Int),.int .i64 ((sg+1:Nat):Int),.int .i64 (b:Int)] W λe w''=>e = .returned (.bool (frN f dp' (sg+1) b n.kids[j]))/\Below W.heap.size W w''):=λdp' W h1 h2=>hcall dp' (sg+1) W h1 hs3n h2;have HOP:Hid (∀W,Calls Tryz.prog 58 #[.agg #[.int .i64 (nk),.int .i64 0,.slice (some ⟨ga,oa,none⟩) len ca],.agg #[.int .i64 yk,.int .i64 ys,.slice xa yl ka]] W λe w'=>e = .returned (.bool (inBr yk (nk)))/\Below W.heap.size W w'):=λW=>open_any8 (nk) 0 (some ⟨ga,oa,none⟩) len ca yk ys xa yl ka W;have HKP:Hid (∀W,Below wr.heap.size wr W->W.cell? ⟨w.heap.size,0,none⟩=some (.int .i64 (nk))/\W.cell? ⟨w.heap.size,1,none⟩=some (.int .i64 0)/\W.cell? ⟨w.heap.size,2,none⟩=some (.slice (some ⟨ga,oa,none⟩) len ca)/\W.cell? ⟨ga,oa+j*3,none⟩=some (.int .i64 yk)/\W.cell? ⟨ga,oa+j*3+1,none⟩=some (.int .i64 ys)/\W.cell? ⟨ga,oa+j*3+2,none⟩=some (.slice xa yl ka)):=λW hk=>⟨(hk.cell (p:=⟨_,_,none⟩) hlt).trans a0,(hk.cell (p:=⟨_,_,none⟩) hlt).trans a1,(hk.cell (p:=⟨_,_,none⟩) hlt).trans a2,(hk.cell (p:=⟨ga,_,none⟩) hga').trans r0,(hk.cell (p:=⟨ga,_,none⟩) hga').trans r1,(hk.cell (p:=⟨ga,_,none⟩) hga').trans r2⟩;have HKEEP:Hid (∀W,Below (wr.drewN 1).heap.size (wr.drewN 1) W->W.cell? ⟨w.heap.size,0,none⟩=some (.int .i64 (nk))/\W.cell? ⟨w.heap.size,1,none⟩=some (.int .i64 0)/\W.cell? ⟨w.heap.size,2,none⟩=some (.slice (some ⟨ga,oa,none⟩) len ca)/\W.cell? ⟨ga,oa+j*3,none⟩=some (.int .i64 yk)/\W.cell? ⟨ga,oa+j*3+1,none⟩=some (.int .i64 ys)/\W.cell? ⟨ga,oa+j*3+2,none⟩=some (.slice xa yl ka)):=λW hW=>HKP.out W ((below_drewN' (Below.refl _ _) 1).trans hW);clear p0 p1 p2 hcall hca ed hyk HD;cases hbr:inBr yk (nk) with
     | false =>
      have hbn:brN yk (nk)=0:=by simp [brN,hbr]
      rw [hbn] at HD1;rw [hbr] at HOP;clear hbn hbr;go_wp2
      go_region_held3 (λw'=>w'.cell? ⟨w.heap.size,0,none⟩=some (.int .i64 (nk))/\w'.cell? ⟨w.heap.size,1,none⟩=some (.int .i64 0)/\w'.cell? ⟨w.heap.size,2,none⟩=some (.slice (some ⟨ga,oa,none⟩) len ca)/\w'.cell? ⟨ga,oa+j*3,none⟩=some (.int .i64 yk)/\w'.cell? ⟨ga,oa+j*3+1,none⟩=some (.int .i64 ys)/\w'.cell? ⟨ga,oa+j*3+2,none⟩=some (.slice xa yl ka)) (first | exact HKEEP.out _ hB1 | go_keep) ((go_at_call 58;refine (HOP.out _).mono ?_;rintro e w3 ⟨rfl,hB1⟩))
      have hk3:Below wr.heap.size wr w3:=(below_drewN' (Below.refl _ _) 1).trans hB1;obtain ⟨b0,b1,b2,s0,s1,s2⟩:=HKP.out _ hk3;have hs3:=hk3.size;have hga3:ga<w3.heap.size:=by omega
      have hlt3:w.heap.size<w3.heap.size:=by omega
      have HB3:Hid (Below w.heap.size w w3):=below_after hB hk3;have HE3:Hid (w3.heap[w.heap.size]? = some (.cells #[.int .i64 nk,.int .i64 0,.slice (some ⟨ga,oa,none⟩) len ca] 39 (0,0))):=(hk3.block _ hlt).trans HEA'.out;clear hB1 hk3 hs3;by_cases hdp2:20<dp+0
      · omega
      · have hdp3:decide ((dp:Int) > 20)=false:=by simp;omega
        have hdp4:decide (dp+0<=20)=true:=by simp;omega
        have hcl:Calls Tryz.prog 32 #[.agg #[.int .i64 yk,.int .i64 ys,.slice xa yl ka],.int .i64 (dp:Int),.int .i64 ((sg:Int)+1),.int .i64 (b:Int)] w3 λe w''=>e = .returned (.bool (frN f (dp+0) (sg+1) b n.kids[j]))/\Below w3.heap.size w3 w'':=HCALL.out (dp+0) w3 (by omega) HB3.out;obtain ⟨qk,hqk⟩ :∃x,x=frN f (dp+0) (sg+1) b n.kids[j]:=⟨_,rfl⟩;rw [<- hqk] at hcl;have HD2:Hid (q=(qk&&allF f dp (sg+1) b (nk) (n.kids.drop (j+1)))):=by show _=_;rw [HD1.out,hdp4,hqk,Bool.true_and]
        clear hdp4 hqk HD1
        go_wp2_with fail
        refine hcl.mono ?_;rintro e w4 ⟨rfl,hB4⟩;clear hcl;have HB4:Hid (Below w.heap.size w w4):=below_after HB3.out hB4;have HE4:Hid (w4.heap[w.heap.size]? = some (.cells #[.int .i64 nk,.int .i64 0,.slice (some ⟨ga,oa,none⟩) len ca] 39 (0,0))):=(hB4.block _ hlt3).trans HE3.out;clear hB4;cases hq:qk with
        | false =>
         have HF:Hid (q=false):=by show _=_;rw [HD2.out,hq];rfl
         clear hq;go_wp2;go_ret;rw [HF.out];exact ⟨rfl,HB4.out⟩
        | true =>
         have HF:Hid (q=allF f dp (sg+1) b (nk) (n.kids.drop (j+1))):=by show _=_;rw [HD2.out,hq,Bool.true_and]
         clear hq;go_wp2
         go_roundw
         case rel=>exact ⟨j+1,by omega,by go_num,HF,HE4.out,HB4.out⟩
         case measure=>simp [intOf];omega
     | true =>
      have hbn:brN yk (nk)=1:=by simp [brN,hbr]
      rw [hbn] at HD1;rw [hbr] at HOP;clear hbn hbr;go_wp2
      go_region_held3 (λw'=>w'.cell? ⟨w.heap.size,0,none⟩=some (.int .i64 (nk))/\w'.cell? ⟨w.heap.size,1,none⟩=some (.int .i64 0)/\w'.cell? ⟨w.heap.size,2,none⟩=some (.slice (some ⟨ga,oa,none⟩) len ca)/\w'.cell? ⟨ga,oa+j*3,none⟩=some (.int .i64 yk)/\w'.cell? ⟨ga,oa+j*3+1,none⟩=some (.int .i64 ys)/\w'.cell? ⟨ga,oa+j*3+2,none⟩=some (.slice xa yl ka)) (first | exact HKEEP.out _ hB1 | go_keep) ((go_at_call 58;refine (HOP.out _).mono ?_;rintro e w3 ⟨rfl,hB1⟩))
      have hk3:Below wr.heap.size wr w3:=(below_drewN' (Below.refl _ _) 1).trans hB1;obtain ⟨b0,b1,b2,s0,s1,s2⟩:=HKP.out _ hk3;have hs3:=hk3.size;have hga3:ga<w3.heap.size:=by omega
      have hlt3:w.heap.size<w3.heap.size:=by omega
      have HB3:Hid (Below w.heap.size w w3):=below_after hB hk3;have HE3:Hid (w3.heap[w.heap.size]? = some (.cells #[.int .i64 nk,.int .i64 0,.slice (some ⟨ga,oa,none⟩) len ca] 39 (0,0))):=(hk3.block _ hlt).trans HEA'.out;clear hB1 hk3 hs3;by_cases hdp2:20<dp+1
      · have hdp3:decide (((dp:Int)+1) > 20)=true:=by simp;omega
        have hdp4:decide (dp+1<=20)=false:=by simp;omega
        have HF:Hid (q=false):=by show _=_;rw [HD1.out,hdp4];rfl
        clear hdp4;go_wp2;go_ret;rw [HF.out];exact ⟨rfl,HB3.out⟩
      · have hdp3:decide (((dp:Int)+1) > 20)=false:=by simp;omega
        have hdp4:decide (dp+1<=20)=true:=by simp;omega
        have hcl:Calls Tryz.prog 32 #[.agg #[.int .i64 yk,.int .i64 ys,.slice xa yl ka],.int .i64 ((dp:Int)+1),.int .i64 ((sg:Int)+1),.int .i64 (b:Int)] w3 λe w''=>e = .returned (.bool (frN f (dp+1) (sg+1) b n.kids[j]))/\Below w3.heap.size w3 w'':=HCALL.out (dp+1) w3 (by omega) HB3.out;obtain ⟨qk,hqk⟩ :∃x,x=frN f (dp+1) (sg+1) b n.kids[j]:=⟨_,rfl⟩;rw [<- hqk] at hcl;have HD2:Hid (q=(qk&&allF f dp (sg+1) b (nk) (n.kids.drop (j+1)))):=by show _=_;rw [HD1.out,hdp4,hqk,Bool.true_and]
        clear hdp4 hqk HD1
        go_wp2_with fail
        refine hcl.mono ?_;rintro e w4 ⟨rfl,hB4⟩;clear hcl;have HB4:Hid (Below w.heap.size w w4):=below_after HB3.out hB4;have HE4:Hid (w4.heap[w.heap.size]? = some (.cells #[.int .i64 nk,.int .i64 0,.slice (some ⟨ga,oa,none⟩) len ca] 39 (0,0))):=(hB4.block _ hlt3).trans HE3.out;clear hB4;cases hq:qk with
        | false =>
         have HF:Hid (q=false):=by show _=_;rw [HD2.out,hq];rfl
         clear hq;go_wp2;go_ret;rw [HF.out];exact ⟨rfl,HB4.out⟩
        | true =>
         have HF:Hid (q=allF f dp (sg+1) b (nk) (n.kids.drop (j+1))):=by show _=_;rw [HD2.out,hq,Bool.true_and]
         clear hq;go_wp2
         go_roundw
         case rel=>exact ⟨j+1,by omega,by go_num,HF,HE4.out,HB4.out⟩
         case measure=>simp [intOf];omega
   · have HF:Hid (q=true):=by
      show _=_;rw [HD.out,List.drop_eq_nil_of_le (by rw [<- HLEN.out.1];omega)];rfl
     go_wp2;go_ret;rw [HF.out];exact ⟨rfl,hB⟩
theorem form_any:∀(d:Nat) (n:Nd) (z:Value) (dp sg b:Nat) (w:World),Dp d n.kids->dp<=20->sg<=3->b<=1000000->KdX (λk=>k<w.heap.size) w z n.kids ->
 Calls Tryz.prog 32 #[ndV n z,.int .i64 (dp:Int),.int .i64 (sg:Int),.int .i64 (b:Int)] w λe w'=>e = .returned (.bool (frN d dp sg b n))/\Below w.heap.size w w'
 | 0,n,z,dp,sg,b,w,hd,hdp,hsg,hb,hz=>by
  obtain ⟨za,ca,rfl,_⟩:=hz.slice;have h0:n.kids=[]:=hd;refine form_body n za ca 0 dp sg b (by rw [h0];simp) hdp hsg hb w _ (λh=>by simp [frN,h]) (λh h2=>by simp [frN,h,h2]) (λh h2=>by simp [frN,h,h2,allF,h0]) (λi hi=>by rw [h0] at hi;cases hi)
 | d+1,n,z,dp,sg,b,w,hd,hdp,hsg,hb,hz=>by
  obtain ⟨za,ca,rfl,_⟩:=hz.slice;refine form_body n za ca d dp sg b hd.1 hdp hsg hb w _ (λh=>by simp [frN,h]) (λh h2=>by simp [frN,h,h2]) (λh h2=>by simp [frN,h,h2,allF]) (λi hi => ?_);obtain ⟨g,off,cap,z',e1,e2,e3,e4,e5,e6,e7⟩:=hz.at i hi;obtain ⟨rfl,_,rfl⟩:za=some ⟨g,off,none⟩/\n.kids.length=n.kids.length/\ca=cap:=by simpa using e1
  obtain ⟨xa,xc,rfl,_⟩:=e7.slice;refine ⟨e2,g,off,xa,xc,rfl,e3,e4,e5,e6,λdp' sg' W h1 h2 hB => ?_⟩;exact form_any d n.kids[i] _ dp' sg' b W (hd.2 _ (List.getElem_mem hi)) h1 h2 hb (e7.to (λk hk=>⟨hB.block k hk,Nat.lt_of_lt_of_le hk hB.size⟩))
end Go.Proofs.YtfdjchnckjgapaaGreatDoor
