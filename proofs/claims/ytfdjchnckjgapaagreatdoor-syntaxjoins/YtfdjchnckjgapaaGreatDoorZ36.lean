/-
  RefLex RefSet
-/
import Derived.Test.YtfdjchnckjgapaaGreatDoorZ35
import Derived.Test.YtfdjchnckjgapaaGreatDoorZ34
namespace Go.Proofs.YtfdjchnckjgapaaGreatDoor
set_option maxHeartbeats 4000000
set_option maxRecDepth 100000
open Go.RowKit Go.Shelf S1
set_option linter.unusedVariables false
theorem run_last {zs:List Int}:∀ {us:List U} {p q:Nat},Run zs p us q->∀(h:us.length-1<us.length),us[us.length-1].p+us[us.length-1].w=q
 | [],_,_,_,h=>by simp at h
 | [u],p,q,hr,h=>by
  have h1:u.p=p:=by rw [hr.2.1];rfl
  have h2:p+u.w=q:=hr.2.2;show u.p+u.w=q;omega
 | u::v::t,p,q,hr,h=>by
  have:=run_last (us:=v::t) hr.2.2 (by simp);simpa using this
theorem refAt_any (zs:List Int) (hz:zs.length<=10000) (us:List U) (hlen:us.length<=10000) (hrun:Run zs 0 us zs.length) (j:Nat) (hj:j<=us.length) (v:Value) (w:World) (hv:UnitsIn w v us) :
 Calls Tryz.prog 43 #[v,.int .i64 j] w λe w'=>e = .returned (.int .i64 (atL zs.length (us.drop j):Int))/\∃nd,w'=w.drewN nd:=by
 obtain ⟨a,cap,rfl,hc,hi⟩:=hv;obtain ⟨fin,hfin⟩ :∃fin,fin=atL zs.length (us.drop j):=⟨_,rfl⟩;rw [<- hfin];by_cases hlt:j<us.length
 · obtain ⟨g,off,rfl,hg,c0,c1,c2,c3⟩:=hi j hlt;have HF:Hid (fin=us[j].p):=by show _=_;rw [hfin,List.drop_eq_getElem_cons hlt];rfl
   rw [<- HF.out] at c1;have hk0:(0:Int)<=(j:Int):=by omega
   have hk1:(j:Int)<(us.length:Int):=by omega
   clear hi c0 c2 c3 hfin;go_enter Tryz.func43,Tryz.ntmps43;go_wp2;go_ret;exact ⟨rfl,0,rfl⟩
 · obtain rfl:j=us.length:=by omega
   have hid:decide ((us.length:Int)<(us.length:Int))=false:=by simp
   by_cases h0:us.length=0
   · obtain rfl:us=[]:=List.length_eq_zero_iff.1 h0;have e0:(0:Nat)=zs.length:=hrun;have HF:Hid (fin=0):=by show _=_;rw [hfin];exact e0.symm
     clear hi hfin h0 hrun e0 hlt hid;go_enter Tryz.func43,Tryz.ntmps43;go_wp2;go_ret;exact ⟨by rw [HF.out];rfl,0,rfl⟩
   · have hl:=run_last hrun (by omega);obtain ⟨g,off,rfl,hg,c0,c1,c2,c3⟩:=hi (us.length-1) (by omega);have HF:Hid (fin=us[us.length-1].p+us[us.length-1].w):=by show _=_;rw [hfin,List.drop_length,hl];rfl
     have hle:us[us.length-1].p+us[us.length-1].w<=10000:=by omega
     obtain ⟨x,hx⟩ :∃x,x=us[us.length-1].p:=⟨_,rfl⟩;obtain ⟨y,hy⟩ :∃y,y=us[us.length-1].w:=⟨_,rfl⟩;rw [<- hx] at c1 hle HF;rw [<- hy] at c2 hle HF;have hne:((us.length:Int)==0)=false:=by simp;intro h;exact h0 (by rw [h];rfl)
     have hk0:(0:Int)<=(us.length:Int)-1:=by omega
     have hk1:(us.length:Int)-1<(us.length:Int):=by omega
     have hkt:((us.length:Int)-1).toNat=us.length-1:=by omega
     have h0':0<us.length:=by omega
     clear hi c0 c3 hfin hl hx hy hrun h0 hlt;go_enter Tryz.func43,Tryz.ntmps43;go_wp2
     go_quiet (fail)
     go_wp2;go_ret;exact ⟨by rw [HF.out];go_num,_,rfl⟩
theorem refBlank_any (us:List U) (hlen:us.length<=10000) (hok:Okay us) (j:Nat) (hj:j<=us.length) (v:Value) (w:World) (hv:UnitsIn w v us) :
 Calls Tryz.prog 40 #[v,.int .i64 j] w λe w'=>e = .returned (.int .i64 ((us.length-(blankL false (us.drop j)).length:Nat):Int))/\w'=w:=by
 have HV:Hid (UnitsIn w v us):=hv;obtain ⟨a,cap,rfl,hc,_⟩:=hv;have HOK:Hid (Okay us):=hok;obtain ⟨fin,hfin⟩ :∃fin,fin=blankL false (us.drop j):=⟨_,rfl⟩;rw [<- hfin];have HF:Hid (fin=blankL false (us.drop j)):=hfin;obtain ⟨fn,hfn⟩ :∃fn,fn=us.length-fin.length:=⟨_,rfl⟩;rw [<- hfn];have HFN:Hid (fn=us.length-fin.length):=hfn;clear hok hfin hfn;go_enter Tryz.func40,Tryz.ntmps40;go_wp2
 go_loopw [1] (λxi wr=>∃k:Nat,k<=us.length/\xi = .int .i64 k/\Hid (fin=blankL false (us.drop k))/\wr=w) (λxi _=>us.length-(intOf xi).toNat)
 case atStart=>exact ⟨j,hj,rfl,HF,rfl⟩
 case round =>
  obtain ⟨k,hk,rfl,HE,rfl⟩:=hrel;cases hd:us.drop k with
  | nil =>
   have hkl:k=us.length:=by have:=congrArg List.length hd;simp at this;omega
   have HR:Hid (fn=k):=by
    show _=_;rw [HFN.out,HE.out,hd,hkl];rfl
   subst hkl;have hid:decide ((us.length:Int)<(us.length:Int))=false:=by simp
   clear hd;go_wp2;go_ret;exact ⟨by rw [HR.out];rfl,rfl⟩
  | cons u t =>
   obtain ⟨hlt,hdt,hl1,hl0,hmem⟩:=drop_step hd;have hoku:=HOK.out u hmem;obtain ⟨g,off,rfl,c0,_,c3⟩:=HV.out.get k hlt hd;have hk0:(0:Int)<=(k:Int):=by omega
   have hk1:(k:Int)<(us.length:Int):=by omega
   rw [hd] at HE;have HD:Hid (us.drop k=u::t):=hd;have HDT:Hid (us.drop (k+1)=t):=hdt;have HL0:Hid (us.length-(u::t).length=k):=hl0;obtain ⟨ur,hur⟩ :∃ur,ur=u.r:=⟨_,rfl⟩;rw [<- hur] at c0 hoku;have HUR:Hid (ur=u.r):=hur;clear hd hdt hl1 hl0 hmem hur c3;cases q35:(ur==35) with
   | true =>
    obtain rfl:ur=35:=by simpa using q35
    have hub:u.bad=false:=by
     cases hb:u.bad with
     | false=>rfl
     | true=>have:=hoku.1 hb;omega
    have HT:Hid (fin=blankL true (us.drop k)):=by
     show _=_;rw [HE.out,HD.out];have h35:u.r=35:=HUR.out.symm;simp [blankL,hub,h35]
    clear q35 hoku;go_wp2;obtain ⟨wo,rfl⟩ :∃wo:World,wo=wr:=⟨_,rfl⟩
    go_loopw [1] (λxi wi=>∃k':Nat,k<=k'/\k'<=us.length/\xi = .int .i64 k'/\Hid (fin=blankL true (us.drop k'))/\wi=wo) (λxi _=>us.length-(intOf xi).toNat)
    case atStart=>exact ⟨k,Nat.le_refl _,hk,rfl,HT,rfl⟩
    case round =>
     obtain ⟨m,hkm,hm,rfl,HM,rfl⟩:=hrel;clear c0;cases hd2:us.drop m with
     | nil =>
      have hml:m=us.length:=by have:=congrArg List.length hd2;simp at this;omega
      have HR:Hid (fin=blankL false (us.drop us.length)):=by
       show _=_;rw [HM.out,hd2,List.drop_length];rfl
      subst hml;have hid:decide ((us.length:Int)<(us.length:Int))=false:=by simp
      clear hd2;go_wp2
      go_roundw
      case rel=>exact ⟨us.length,Nat.le_refl _,rfl,HR,trivial⟩
      case measure=>simp [intOf];omega
     | cons u2 t2 =>
      obtain ⟨hlt2,hdt2,hl1,hl0,hmem2⟩:=drop_step hd2;have hoku2:=HOK.out u2 hmem2;obtain ⟨g',off',eg,d0,_,d3⟩:=HV.out.get m hlt2 hd2;obtain ⟨rfl,rfl⟩:g=g'/\off=off':=by simpa using eg
      have hm0:(0:Int)<=(m:Int):=by omega
      have hm1:(m:Int)<(us.length:Int):=by omega
      have HD2:Hid (us.drop m=u2::t2):=hd2;have HDT2:Hid (us.drop (m+1)=t2):=hdt2;have HL2:Hid (us.length-(u2::t2).length=m):=hl0;obtain ⟨r2,hr2⟩ :∃r2,r2=u2.r:=⟨_,rfl⟩;rw [<- hr2] at d0 hoku2;have HR2:Hid (r2=u2.r):=hr2;clear hd2 hdt2 hl1 hl0 hmem2 hr2 eg;cases hb2:u2.bad with
      | true =>
       rw [hb2] at d3;obtain rfl:r2=65533:=hoku2.1 hb2;have HR:Hid (fn=m):=by
        show _=_;rw [HFN.out,HM.out,HD2.out];simp only [blankL,hb2,if_true];exact HL2.out
       clear hoku2;go_wp2;go_ret;exact ⟨by rw [HR.out];rfl,rfl⟩
      | false =>
       rw [hb2] at d3;cases q10:(r2==10) with
       | true =>
        obtain rfl:r2=10:=by simpa using q10
        have hne:k≠m:=by
         rintro rfl;have:u::t=u2::t2:=HD.out.symm.trans HD2.out
         injection this with e1 e2
         have h1:=HUR.out;have h2:=HR2.out;rw [e1] at h1;omega
        have HR:Hid (fin=blankL false (us.drop m)):=by
         show _=_;rw [HM.out,HD2.out];have h10:u2.r=10:=HR2.out.symm;simp [blankL,hb2,h10,blankR]
        have hne':k<m:=by omega
        clear q10 hoku2 hne;go_wp2
        go_roundw
        case rel=>exact ⟨m,by omega,rfl,HR,trivial⟩
        case measure=>simp [intOf];omega
       | false =>
        have q10':(r2 != 10)=true:=by simp only [bne,q10];rfl
        have HR:Hid (fin=blankL true (us.drop (m+1))):=by
         show _=_;rw [HM.out,HD2.out,HDT2.out];have h10:u2.r≠10:=by rw [<- HR2.out];simpa using q10
         simp [blankL,hb2,h10]
        clear hoku2;go_wp2
        go_roundw
        case rel=>exact ⟨m+1,by omega,by omega,by go_num,HR,trivial⟩
        case measure=>simp [intOf];omega
   | false =>
    have q35':u.r≠35:=by rw [<- HUR.out];simpa using q35
    have key:(blankR ur=true->fin=blankL false (us.drop (k+1)))/\(blankR ur=false->fn=k):=by
     refine ⟨λh => ?_,λh => ?_⟩
     · have hub:u.bad=false:=by
        cases hb:u.bad with
        | false=>rfl
        | true=>have:=hoku.1 hb;rw [this] at h;cases h
       rw [HE.out,HDT.out];rw [HUR.out] at h;simp [blankL,hub,q35',h]
     · rw [HFN.out,HE.out];rw [HUR.out] at h;have:blankL false (u::t)=u::t:=by
        cases hb:u.bad with
        | true=>simp [blankL,hb]
        | false=>simp [blankL,hb,q35',h]
       rw [this];exact HL0.out
    have HK:Hid ((blankR ur=true->fin=blankL false (us.drop (k+1)))/\(blankR ur=false->fn=k)):=key;clear key q35' hoku;have on:∀b,blankR ur=b->b=true->Hid (fin=blankL false (us.drop (k+1))):=λb h1 h2=>HK.out.1 (h1.trans h2);cases q32:(ur==32) with
    | true =>
     have HR:=HK.out.1 (by simp [blankR,q32]);have HR':Hid (fin=blankL false (us.drop (k+1))):=HR;obtain rfl:ur=32:=by simpa using q32
     clear HR on q32 q35;go_wp2
     go_roundw
     case rel=>exact ⟨k+1,by omega,by go_num,HR',trivial⟩
     case measure=>simp [intOf];omega
    | false=>cases q9:(ur==9) with
     | true =>
      have HR:=HK.out.1 (by simp [blankR,q9]);have HR':Hid (fin=blankL false (us.drop (k+1))):=HR;obtain rfl:ur=9:=by simpa using q9
      clear HR on q32 q35 q9;go_wp2
      go_roundw
      case rel=>exact ⟨k+1,by omega,by go_num,HR',trivial⟩
      case measure=>simp [intOf];omega
     | false=>cases q10:(ur==10) with
      | true =>
       have HR:=HK.out.1 (by simp [blankR,q10]);have HR':Hid (fin=blankL false (us.drop (k+1))):=HR;obtain rfl:ur=10:=by simpa using q10
       clear HR on q32 q35 q9 q10;go_wp2
       go_roundw
       case rel=>exact ⟨k+1,by omega,by go_num,HR',trivial⟩
       case measure=>simp [intOf];omega
      | false=>cases q13:(ur==13) with
       | true =>
        have HR:=HK.out.1 (by simp [blankR,q13]);have HR':Hid (fin=blankL false (us.drop (k+1))):=HR;obtain rfl:ur=13:=by simpa using q13
        clear HR on q32 q35 q9 q10 q13;go_wp2
        go_roundw
        case rel=>exact ⟨k+1,by omega,by go_num,HR',trivial⟩
        case measure=>simp [intOf];omega
       | false =>
        have HR:Hid (fn=k):=HK.out.2 (by simp [blankR,q32,q9,q10,q13]);have n32:(ur != 32)=true:=by simp only [bne,q32];rfl
        have n9:(ur != 9)=true:=by simp only [bne,q9];rfl
        have n10:(ur != 10)=true:=by simp only [bne,q10];rfl
        have n13:(ur != 13)=true:=by simp only [bne,q13];rfl
        clear on;go_wp2;go_ret;exact ⟨by rw [HR.out];rfl,rfl⟩
def sgL:List Int:=[61,59,47,124,42,43,63,40,41,46,126,38,45]
theorem tok_mem (r:Int):tokR r=true↔r∈sgL:=by simp [tokR,sgL,or_assoc]
theorem refSign_any (r:Int) (w:World):Calls Tryz.prog 45 #[.int .i64 r] w λe w'=>e = .returned (.bool (tokR r))/\Below w.heap.size w w':=by
 have hcv:=Go.Lib.run_convert_bytes_const (P:=Tryz.prog) w 22 5 (sgL.map (Value.int .u8)).toArray 13 13 Tryz.underlying22 Tryz.underlying5;have hbl:=bytes_lit (w:=w) sgL 5 (13,14) 13 (Nat.le_refl _);have hB1:Below w.heap.size w (w.alloc (.cells (sgL.map (Value.int .u8)).toArray 5 (13,14))):=(Below.refl _ w).alloc (Nat.le_refl _) _;obtain ⟨W1,hW1⟩ :∃W1,W1=w.alloc (.cells (sgL.map (Value.int .u8)).toArray 5 (13,14)):=⟨_,rfl⟩;have hcv':(convert 22 22 (.slice (some ⟨w.heap.size,0,none⟩) 13 13)).run Tryz.prog (w.alloc (.cells #[.int .u8 61,.int .u8 59,.int .u8 47,.int .u8 124,.int .u8 42,.int .u8 43,.int .u8 63,.int .u8 40,.int .u8 41,.int .u8 46,.int .u8 126,.int .u8 38,.int .u8 45] 5)) = .ok (.slice (some ⟨w.heap.size,0,none⟩) 13 13) W1:=by rw [hW1];exact hcv
 rw [<- hW1] at hB1 hbl;have HC:Hid (∀j,j<13->W1.cell? ⟨w.heap.size,j,none⟩=some (.int .u8 (sgL[j]?.getD 0))/\0<=sgL[j]?.getD 0/\sgL[j]?.getD 0<=127):=λj hj=>by
  rcases hbl with ⟨_,_,_,e⟩ | ⟨b,off,c,e,_,_,hcell⟩
  · cases e
  · simp at e;obtain ⟨⟨rfl,rfl⟩,_⟩:=e;have:=hcell j hj;rw [Nat.zero_add] at this;refine ⟨this,?_⟩;have key:∀i:Fin 13,0<=sgL[i.val]?.getD 0/\sgL[i.val]?.getD 0<=127:=by decide
    exact key ⟨j,hj⟩
 obtain ⟨fin,hfin⟩ :∃fin,fin=tokR r:=⟨_,rfl⟩;rw [<- hfin];have HF:Hid (fin=tokR r):=hfin;clear hW1 hcv hbl hfin;go_enter Tryz.func45,Tryz.ntmps45;go_wp2
 go_loopw [4] (λxi wr=>∃k:Nat,k<=13/\xi = .int .i64 k/\(∀j,j<k->sgL[j]?.getD 0≠r)/\wr=W1) (λxi _=>13-(intOf xi).toNat)
 case atStart=>exact ⟨0,by omega,rfl,λj h=>by omega,rfl⟩
 case round =>
  obtain ⟨k,hk,rfl,hno,rfl⟩:=hrel;have HNO:Hid (∀j,j<k->sgL[j]?.getD 0≠r):=hno;clear hno;by_cases hlt:k<13
  · obtain ⟨c0,hz0,hz1⟩:=HC.out k hlt;obtain ⟨z,hz⟩ :∃z,z=sgL[k]?.getD 0:=⟨_,rfl⟩;rw [<- hz] at c0 hz0 hz1;have HZ:Hid (z=sgL[k]?.getD 0):=hz;clear hz;have hk0:(0:Int)<=(k:Int):=by omega
    have hk1:(k:Int)<13:=by omega
    by_cases q:z=r
    · subst q;have HR:Hid (fin=true):=by
       show _=_;rw [HF.out,tok_mem,HZ.out];have hkl:k<sgL.length:=hlt;rw [List.getElem?_eq_getElem hkl];exact List.getElem_mem hkl
      go_wp2;go_ret;exact ⟨by rw [HR.out];rfl,hB1⟩
    · have q':(z==r)=false:=by simpa using q
      have HN2:Hid (∀j,j<k+1->sgL[j]?.getD 0≠r):=λj h=>by
       by_cases e:j=k
       · subst e;rw [<- HZ.out];exact q
       · exact HNO.out j (by omega)
      clear q;go_wp2
      go_roundw
      case rel=>exact ⟨k+1,by omega,by go_num,HN2.out,trivial⟩
      case measure=>simp [intOf];omega
  · obtain rfl:k=13:=by omega
    have HR:Hid (fin=false):=by
     show _=_;rw [HF.out];cases h:tokR r with
     | false=>rfl
     | true =>
      obtain ⟨i,hi,e⟩:=List.getElem_of_mem ((tok_mem r).1 h);have:=HNO.out i hi;rw [List.getElem?_eq_getElem hi] at this;exact absurd e this
    go_wp2;go_ret;exact ⟨by rw [HR.out];rfl,hB1⟩
set_option maxHeartbeats 8000000
set_option maxRecDepth 100000
def RSetT (N n:Nat) (vs:List U) (sr:SR) (w:World) (e:Ending) (w':World):Prop :=
 (∃r x,r <:+ vs/\sr=SR.bad (atL n r) x/\e = .returned (.tuple #[.slice none 0 0,.int .i64 ((N-r.length:Nat):Int),.int .i64 x])/\x≠0/\Below w.heap.size w w') \/
 (∃l r s v,sr=SR.good l r/\e = .returned (.tuple #[v,.int .i64 ((N-r.length:Nat):Int),.int .i64 0])/\Upto (hasR l) s 1114112/\w'.ownsRow w.heap.size 94 2 v s.length (cellsRs s)/\Below w.heap.size w w')
theorem stuckE_ne (r:List U):stuckE r≠0:=by cases r<;>simp [stuckE]
theorem refSet_any (zs:List Int) (us:List U) (hlen:us.length<=10000) (hrun:Run zs 0 us zs.length) (j:Nat) (hj:j<=us.length) (v:Value) (w:World) (hv:UnitsIn w v us) :
 Calls Tryz.prog 44 #[v,.int .i64 j] w λe w'=>RSetT us.length zs.length (us.drop j) (setF zs.length ((us.drop j).length+1) (us.drop j) []) w e w':=by
 obtain ⟨i0,hi0,hz0,hz1,hz2⟩:=info_parts Tryz.infoRange;have hok:Okay us:=Okay.of_run hrun;have HLT:Hid (∀(k:Nat) W,k<=us.length->UnitsIn W v us->Calls Tryz.prog 87 #[v,.int .i64 k] W λe w'=>e = .returned (litE us.length (letL (us.drop k)))/\W=w'):=λk W hk h=>(refLetter_any us hlen hok k hk v W h).mono λe w' h=>⟨h.1,h.2.symm⟩;have HV:Hid (UnitsIn w v us):=hv;obtain ⟨a,cap,rfl,hc,_⟩:=hv;have HOK:Hid (Okay us):=hok;obtain ⟨sr,hsr⟩ :∃sr,sr=setF zs.length ((us.drop j).length+1) (us.drop j) []:=⟨_,rfl⟩;rw [<- hsr];have HSR:Hid (sr=setF zs.length ((us.drop j).length+1) (us.drop j) []):=hsr;have hrn0:Runs zs us:=⟨0,hrun⟩;have HRN:Hid (∀k,Runs zs (us.drop k)):=λk=>hrn0.of_suffix (List.drop_suffix k us);clear hsr hok hrun hrn0;go_enter Tryz.func44,Tryz.ntmps44;go_wp2
 go_loopw [1,7] (λxi v wr=>∃(i k:Nat) (acc:List Rg),i<=us.length/\j<=i/\xi = .int .i64 i/\(us.drop i).length<k/\acc.length<=i/\Hid (setF zs.length k (us.drop i) acc=sr)/\wr.ownsRow w.heap.size 94 2 v acc.length (cellsRs acc)/\Hid (Fits acc)/\Below w.heap.size w wr) (λxi _ _=>us.length-(intOf xi).toNat)
 case atStart=>exact ⟨j,(us.drop j).length+1,[],hj,Nat.le_refl _,rfl,by omega,by simp,HSR.out.symm,World.ownsRow_nil _ _ _ _,(λr h=>(by cases h)),Below.refl _ _⟩
 case round =>
  obtain ⟨i,k,acc,hil,hji,rfl,hk,hal,HEQ,ho,HFIT,hB⟩:=hrel;have HO:Hid (wr.ownsRow w.heap.size 94 2 _ acc.length (cellsRs acc)):=ho;have hbs:=hB.size;have HVR:Hid (UnitsIn wr (.slice a us.length cap) us):=HV.out.below hB;have HSUF:Hid (us.drop i <:+ us.drop j):=by
   show _ <:+ _;rw [show us.drop i=(us.drop j).drop (i-j) by rw [List.drop_drop];congr 1;omega];exact List.drop_suffix _ _
  clear ho;obtain ⟨k,rfl⟩ :∃m,k=m+1:=⟨k-1,by omega⟩;cases hd:us.drop i with
  | nil =>
   have hie:i=us.length:=by have:=congrArg List.length hd;simp at this;omega
   have HE:Hid (sr=SR.bad (atL zs.length []) 7):=by
    show _=_;rw [<- HEQ.out,hd];exact setF_stuck (r:=[]) (s:=[]) rfl rfl
   rw [hd] at HSUF;subst hie;have hge:decide ((us.length:Int)<=(us.length:Int))=true:=by simp
   clear hd hk;go_wp2
   go_ret3
   exact .inl ⟨[],7,HSUF.out,HE.out,by simp,by decide,hB⟩
  | cons u t =>
   obtain ⟨hlt,hdt,hl1,hl0,hmem⟩:=drop_step hd;have hoku:=HOK.out u hmem;obtain ⟨g,off,rfl,c0,_,_⟩:=HVR.out.get i hlt hd;have hge:decide ((us.length:Int)<=(i:Int))=false:=by simp;omega
   have hk0:(0:Int)<=(i:Int):=by omega
   have hk1:(i:Int)<(us.length:Int):=by omega
   have f93:fitU (isC 93) u=(u.r==93):=fit_eq hoku.1 rfl;have HL1:Hid (us.length-t.length=i+1):=hl1;have HD:Hid (us.drop i=u::t):=hd;have hlet:=HLT.out i wr hil HVR.out;rw [hd] at hk hlet;obtain ⟨ur,hur⟩ :∃ur,ur=u.r:=⟨_,rfl⟩;rw [<- hur] at c0 f93;clear hd hdt hl1 hl0 hmem hur hoku;cases q93:(ur==93) with
   | true =>
    have HS:Hid (sgn (isC 93) (us.drop i)=(some u.r,t)):=by show _=_;rw [HD.out,sgn_cons,f93,q93];simp
    have HE:Hid (sr=SR.good acc t):=by show _=_;rw [<- HEQ.out];exact setF_end HS.out
    obtain rfl:ur=93:=by simpa using q93
    have hmk:=refMake_any acc _ wr (by omega) (RngSrc.row HO.out);clear f93 q93 hlet hk
    go_wp2_with fail
    refine hmk.mono ?_;rintro e w2 ⟨⟨hnf,_⟩ | ⟨_,s,v',hup,rfl,hown⟩,hB2⟩
    · exact absurd HFIT.out hnf
    · have HUP:Hid (Upto (hasR acc) s 1114112):=hup;have HOW:Hid (w2.ownsRow w.heap.size 94 2 v' s.length (cellsRs s)):=own_mono hown hbs;have hB02:Below w.heap.size w w2:=hB.trans (hB2.mono hbs);clear hmk hup hown;go_wp2
      go_ret3
      exact .inr ⟨acc,t,s,v',HE.out,by rw [HL1.out];rfl,HUP.out,HOW.out,hB02⟩
   | false =>
    have HS:Hid (sgn (isC 93) (us.drop i)=(none,u::t)):=by show _=_;rw [HD.out,sgn_cons,f93,q93];simp
    have hsuf:=letL_suffix (u::t);have hln:=@letL_len (u::t);cases hx:letL (u::t) with
    | mk o r =>
     rw [hx] at hlet hsuf;have hsufj:r <:+ us.drop i:=by rw [HD.out];exact hsuf
     obtain ⟨hdr,hir,hrl⟩:=suffix_drop hsufj;have hir:=hir hil;cases o with
     | none =>
      have HEN:Hid (entL (us.drop i)=(none,r)):=by show _=_;rw [HD.out];exact entL_a hx
      have HE:Hid (sr=SR.bad (atL zs.length r) (stuckE r)):=by show _=_;rw [<- HEQ.out];exact setF_stuck HS.out HEN.out
      have HSF:Hid (r <:+ us.drop j):=hsufj.trans HSUF.out;rw [litE_none rfl] at hlet;have hne:(stuckE r != 0)=true:=by simpa using stuckE_ne r
      clear hx hsuf hsufj hdr hir hln hk;obtain ⟨idx,hidx⟩ :∃idx,idx=us.length-r.length:=⟨_,rfl⟩;rw [<- hidx] at hlet;have HIDX:Hid (idx=us.length-r.length):=hidx;clear hidx;obtain ⟨sx,hsx⟩ :∃sx,sx=stuckE r:=⟨_,rfl⟩;rw [<- hsx] at hlet hne HE;have HSX:Hid (sx≠0):=by show _≠_;rw [hsx];exact stuckE_ne r
      clear hsx
      go_wp2_with fail
      refine hlet.mono ?_;rintro e w' ⟨rfl,rfl⟩;go_wp2
      go_ret3
      exact .inl ⟨r,sx,HSF.out,HE.out,by rw [<- HIDX.out];rfl,HSX.out,hB⟩
     | some lo =>
      have hln:=hln hx;rw [litE_some rfl] at hlet;have hlo0:0<=lo:=letL_pos (by rw [<- HD.out];exact HRN.out i) hx;obtain ⟨m,hm⟩ :∃m,m=us.length-r.length:=⟨_,rfl⟩;rw [<- hm] at hlet hdr hir hrl;have HM:Hid (m=us.length-r.length):=hm;have hrlen:r.length<us.length:=by have:=hsufj.length_le;rw [HD.out] at this;have h2:=congrArg List.length HD.out;rw [List.length_drop] at h2;omega
      have him:i<m:=by
       have h2:=congrArg List.length HD.out;rw [List.length_drop] at h2;omega
      have HDR:Hid (us.drop m=r):=hdr;have HSF:Hid (r <:+ us.drop j):=hsufj.trans HSUF.out;have HX:Hid (letL (u::t)=(some lo,r)):=hx;clear hx hsuf hsufj hdr hir hm hrlen;cases hdm:us.drop m with
      | nil =>
       have hml:m=us.length:=by have:=congrArg List.length hdm;simp at this;omega
       have hr0:r=[]:=HDR.out.symm.trans hdm;have HEN:Hid (entL (us.drop i)=(some ⟨lo,lo⟩,r)):=by show _=_;rw [HD.out];exact entL_b (a:=[]) HX.out (by rw [hr0];rfl)
       have hid:decide ((us.length:Int)<(us.length:Int))=false:=by simp
       subst hml;clear hdm hr0;by_cases q1:1114111<lo
       · have HE:Hid (sr=SR.bad (atL zs.length (us.drop i)) 1):=by show _=_;rw [<- HEQ.out];exact setF_arg HS.out HEN.out (by simp;omega)
         have HIX:Hid (us.length-(us.drop i).length=i):=drop_len hil
         go_wp2_with fail
         refine hlet.mono ?_;rintro e w' ⟨rfl,rfl⟩;go_wp2
         go_ret3
         exact .inl ⟨us.drop i,1,HSUF.out,HE.out,by rw [HIX.out];rfl,by decide,hB⟩
       · have q1':decide (1114111<lo)=false:=by simpa using q1
         have q3':decide (lo<lo)=false:=by simp
         have HE:Hid (setF zs.length k (us.drop us.length) (acc++[⟨lo,lo⟩])=sr):=by
          show _=_;rw [<- HEQ.out,HDR.out];exact (setF_on HS.out HEN.out (by simp;omega)).symm
         have HF2:Hid (Fits (acc++[⟨lo,lo⟩])):=λr h=>by
          rcases List.mem_append.1 h with h | h
          · exact HFIT.out r h
          · obtain rfl:r=⟨lo,lo⟩:=by simpa using h
            exact ⟨hlo0,by show lo<=lo;omega,by show lo<=1114111;omega⟩
         have HO3:Hid ((wr.alloc (.cells #[.int .i64 lo,.int .i64 lo] 94)).ownsRow w.heap.size 94 2 _ acc.length (cellsRs acc)):=World.ownsRow.alloc HO.out _;have HN3:Hid _:=heap_new' wr (.cells #[.int .i64 lo,.int .i64 lo] 94);have hfar:∀j,Value.ownBlock u7=some j->w.heap.size<=j:=λj e=>(World.ownsRow.lt HO3.out j e).1;have HFAR:Hid (∀j,Value.ownBlock u7=some j->w.heap.size<=j):=hfar;have HKL:Hid ((us.drop us.length).length<k):=by
          show _<_;have h1:=congrArg List.length HD.out;rw [List.length_drop] at h1 ⊢;simp only [List.length_cons] at hk h1;omega
         clear hfar hk
         go_wp2_with fail
         refine hlet.mono ?_;rintro e w' ⟨rfl,rfl⟩
         go_wp2_with (at_builtin;go_must (refine wpList_append_own _ rfl (.tmp 81) (.tmp 85) 43 rfl w.heap.size 94 i0 (.agg #[.int .i64 0,.int .i64 0]) 2 16 Tryz.underlying43 hi0 hz0 hz1 hz2 rfl (by decide) _ _ _ rfl HO3.out ⟨wr.heap.size,0,none⟩ 1 1 (cellsR ⟨lo,lo⟩) rfl rfl (World.news_of_block HN3.out) (by simp [cellsR,Value.oneCell']) (by unfold maxLen;omega) (by omega) (by simp;omega) ?_);intro v' w6 hown' hgrow hnil)
         have hB6:Below w.heap.size w w6:=(hB.alloc hbs _).grown hgrow (by simp;omega) HFAR.out
         go_roundw
         case rel=>exact ⟨us.length,k,acc++[⟨lo,lo⟩],by omega,by omega,rfl,HKL.out,by simp;omega,HE,by rw [cellsRs_snoc];simpa using hown',HF2,hB6⟩
         case measure=>simp [intOf];omega
      | cons u2 t2 =>
       obtain ⟨hlt2,hdt2,hl2,hl2',hmem2⟩:=drop_step hdm;have hoku2:=HOK.out u2 hmem2;have hr2:r=u2::t2:=HDR.out.symm.trans hdm;obtain ⟨g',off',eg,d0,_,_⟩:=HVR.out.get m hlt2 hdm;obtain ⟨rfl,rfl⟩:g=g'/\off=off':=by simpa using eg
       have hm0:(0:Int)<=(m:Int):=by omega
       have hm1:(m:Int)<(us.length:Int):=by omega
       have f45:fitU (isC 45) u2=(u2.r==45):=fit_eq hoku2.1 rfl;have hlet2:=HLT.out (m+1) wr hlt2 HVR.out;rw [hdt2,show (((m+1:Nat)):Int)=(m:Int)+1 by omega] at hlet2;have hl2h:Hid (us.length-t2.length=m+1):=hl2;obtain ⟨r2,hr2'⟩ :∃r2,r2=u2.r:=⟨_,rfl⟩;rw [<- hr2'] at d0 f45;clear hdm hdt2 hl2 hl2' hmem2 hoku2 eg hr2';cases q45:(r2==45) with
       | false =>
        have HEN:Hid (entL (us.drop i)=(some ⟨lo,lo⟩,r)):=by show _=_;rw [HD.out];exact entL_b (a:=u2::t2) HX.out (by rw [hr2,sgn_cons,f45,q45];simp)
        clear hlet2 hr2 f45;by_cases q1:1114111<lo
        · have HE:Hid (sr=SR.bad (atL zs.length (us.drop i)) 1):=by show _=_;rw [<- HEQ.out];exact setF_arg HS.out HEN.out (by simp;omega)
          have HIX:Hid (us.length-(us.drop i).length=i):=drop_len hil
          go_wp2_with fail
          refine hlet.mono ?_;rintro e w' ⟨rfl,rfl⟩;go_wp2
          go_ret3
          exact .inl ⟨us.drop i,1,HSUF.out,HE.out,by rw [HIX.out];rfl,by decide,hB⟩
        · have q1':decide (1114111<lo)=false:=by simpa using q1
          have q3':decide (lo<lo)=false:=by simp
          have HE:Hid (setF zs.length k (us.drop m) (acc++[⟨lo,lo⟩])=sr):=by
           show _=_;rw [<- HEQ.out,HDR.out];exact (setF_on HS.out HEN.out (by simp;omega)).symm
          have HF2:Hid (Fits (acc++[⟨lo,lo⟩])):=λr h=>by
           rcases List.mem_append.1 h with h | h
           · exact HFIT.out r h
           · obtain rfl:r=⟨lo,lo⟩:=by simpa using h
             exact ⟨hlo0,by show lo<=lo;omega,by show lo<=1114111;omega⟩
          have HO3:Hid ((wr.alloc (.cells #[.int .i64 lo,.int .i64 lo] 94)).ownsRow w.heap.size 94 2 _ acc.length (cellsRs acc)):=World.ownsRow.alloc HO.out _;have HN3:Hid _:=heap_new' wr (.cells #[.int .i64 lo,.int .i64 lo] 94);have hfar:∀j,Value.ownBlock u7=some j->w.heap.size<=j:=λj e=>(World.ownsRow.lt HO3.out j e).1;have HFAR:Hid (∀j,Value.ownBlock u7=some j->w.heap.size<=j):=hfar;have HKL:Hid ((us.drop m).length<k):=by
           show _<_;have h1:=congrArg List.length HD.out;rw [List.length_drop] at h1 ⊢;simp only [List.length_cons] at hk h1;omega
          clear hfar hk
          go_wp2_with fail
          refine hlet.mono ?_;rintro e w' ⟨rfl,rfl⟩
          go_wp2_with (at_builtin;go_must (refine wpList_append_own _ rfl (.tmp 81) (.tmp 85) 43 rfl w.heap.size 94 i0 (.agg #[.int .i64 0,.int .i64 0]) 2 16 Tryz.underlying43 hi0 hz0 hz1 hz2 rfl (by decide) _ _ _ rfl HO3.out ⟨wr.heap.size,0,none⟩ 1 1 (cellsR ⟨lo,lo⟩) rfl rfl (World.news_of_block HN3.out) (by simp [cellsR,Value.oneCell']) (by unfold maxLen;omega) (by omega) (by simp;omega) ?_);intro v' w6 hown' hgrow hnil)
          have hB6:Below w.heap.size w w6:=(hB.alloc hbs _).grown hgrow (by simp;omega) HFAR.out
          go_roundw
          case rel=>exact ⟨m,k,acc++[⟨lo,lo⟩],by omega,by omega,rfl,HKL.out,by simp;omega,HE,by rw [cellsRs_snoc];simpa using hown',HF2,hB6⟩
          case measure=>simp [intOf];omega
       | true =>
        have HS2:Hid (sgn (isC 45) r=(some u2.r,t2)):=by show _=_;rw [hr2,sgn_cons,f45,q45];simp
        obtain rfl:r2=45:=by simpa using q45
        have hst2:t2 <:+ r:=by rw [hr2];exact List.suffix_cons _ _
        clear hr2 f45 q45;have hsuf2:=letL_suffix t2;cases hx2:letL t2 with
        | mk o b =>
         rw [hx2] at hlet2 hsuf2;have hsufm:b <:+ us.drop (m+1):=by
          have:us.drop (m+1)=t2:=by
           have h1:=(suffix_drop (k:=0) (us:=us) (r:=t2) (by rw [List.drop_zero];exact hst2.trans (HDR.out ▸ List.drop_suffix m us))).1;rw [hl2h.out] at h1;exact h1
          rw [this];exact hsuf2
         obtain ⟨hdb,hmb,hbl⟩:=suffix_drop hsufm;have hmb:=hmb hlt2;cases o with
         | none =>
          have HEN:Hid (entL (us.drop i)=(none,b)):=by show _=_;rw [HD.out];exact entL_c HX.out HS2.out hx2
          have HE:Hid (sr=SR.bad (atL zs.length b) (stuckE b)):=by show _=_;rw [<- HEQ.out];exact setF_stuck HS.out HEN.out
          have HSFB:Hid (b <:+ us.drop j):=(hsuf2.trans hst2).trans HSF.out;rw [litE_none rfl] at hlet2;have hne:(stuckE b != 0)=true:=by simpa using stuckE_ne b
          clear hx2 hsuf2 hsufm hdb hmb hbl hk hst2;obtain ⟨idx,hidx⟩ :∃idx,idx=us.length-b.length:=⟨_,rfl⟩;rw [<- hidx] at hlet2;have HIDX:Hid (idx=us.length-b.length):=hidx;clear hidx;obtain ⟨sx,hsx⟩ :∃sx,sx=stuckE b:=⟨_,rfl⟩;rw [<- hsx] at hlet2 hne HE;have HSX:Hid (sx≠0):=by show _≠_;rw [hsx];exact stuckE_ne b
          clear hsx
          go_wp2_with fail
          refine hlet.mono ?_;rintro e w' ⟨rfl,rfl⟩
          go_wp2_with fail
          refine hlet2.mono ?_;rintro e w' ⟨rfl,rfl⟩;go_wp2
          go_ret3
          exact .inl ⟨b,sx,HSFB.out,HE.out,by rw [<- HIDX.out];rfl,HSX.out,hB⟩
         | some hi' =>
          obtain ⟨hi,rfl⟩ :∃hi,hi=hi':=⟨_,rfl⟩;have HEN:Hid (entL (us.drop i)=(some ⟨lo,hi⟩,b)):=by show _=_;rw [HD.out];exact entL_d HX.out HS2.out hx2
          rw [litE_some rfl] at hlet2;obtain ⟨m2,hm2⟩ :∃m2,m2=us.length-b.length:=⟨_,rfl⟩;rw [<- hm2] at hlet2 hdb hmb hbl;have HDB:Hid (us.drop m2=b):=hdb;clear hx2 hsuf2 hsufm hdb hm2 hst2;by_cases q1:1114111<lo
          · have HE:Hid (sr=SR.bad (atL zs.length (us.drop i)) 1):=by show _=_;rw [<- HEQ.out];exact setF_arg HS.out HEN.out (by simp;omega)
            have HIX:Hid (us.length-(us.drop i).length=i):=drop_len hil
            go_wp2_with fail
            refine hlet.mono ?_;rintro e w' ⟨rfl,rfl⟩
            go_wp2_with fail
            refine hlet2.mono ?_;rintro e w' ⟨rfl,rfl⟩;go_wp2
            go_ret3
            exact .inl ⟨us.drop i,1,HSUF.out,HE.out,by rw [HIX.out];rfl,by decide,hB⟩
          · have q1':decide (1114111<lo)=false:=by simpa using q1
            by_cases q2:1114111<hi
            · have HE:Hid (sr=SR.bad (atL zs.length (us.drop i)) 1):=by show _=_;rw [<- HEQ.out];exact setF_arg HS.out HEN.out (by simp;omega)
              have HIX:Hid (us.length-(us.drop i).length=i):=drop_len hil
              go_wp2_with fail
              refine hlet.mono ?_;rintro e w' ⟨rfl,rfl⟩
              go_wp2_with fail
              refine hlet2.mono ?_;rintro e w' ⟨rfl,rfl⟩;go_wp2
              go_ret3
              exact .inl ⟨us.drop i,1,HSUF.out,HE.out,by rw [HIX.out];rfl,by decide,hB⟩
            · have q2':decide (1114111<hi)=false:=by simpa using q2
              by_cases q3:hi<lo
              · have HE:Hid (sr=SR.bad (atL zs.length (us.drop i)) 1):=by show _=_;rw [<- HEQ.out];exact setF_arg HS.out HEN.out (by simp;omega)
                have HIX:Hid (us.length-(us.drop i).length=i):=drop_len hil
                go_wp2_with fail
                refine hlet.mono ?_;rintro e w' ⟨rfl,rfl⟩
                go_wp2_with fail
                refine hlet2.mono ?_;rintro e w' ⟨rfl,rfl⟩;go_wp2
                go_ret3
                exact .inl ⟨us.drop i,1,HSUF.out,HE.out,by rw [HIX.out];rfl,by decide,hB⟩
              · have q3':decide (hi<lo)=false:=by simpa using q3
                have HE:Hid (setF zs.length k (us.drop m2) (acc++[⟨lo,hi⟩])=sr):=by
                 show _=_;rw [<- HEQ.out,HDB.out];exact (setF_on HS.out HEN.out (by simp;omega)).symm
                have HF2:Hid (Fits (acc++[⟨lo,hi⟩])):=λr h=>by
                 rcases List.mem_append.1 h with h | h
                 · exact HFIT.out r h
                 · obtain rfl:r=⟨lo,hi⟩:=by simpa using h
                   exact ⟨hlo0,by show lo<=hi;omega,by show hi<=1114111;omega⟩
                have HO3:Hid ((wr.alloc (.cells #[.int .i64 lo,.int .i64 hi] 94)).ownsRow w.heap.size 94 2 _ acc.length (cellsRs acc)):=World.ownsRow.alloc HO.out _;have HN3:Hid _:=heap_new' wr (.cells #[.int .i64 lo,.int .i64 hi] 94);have hfar:∀j,Value.ownBlock u7=some j->w.heap.size<=j:=λj e=>(World.ownsRow.lt HO3.out j e).1;have HFAR:Hid (∀j,Value.ownBlock u7=some j->w.heap.size<=j):=hfar;have HKL:Hid ((us.drop m2).length<k):=by
                 show _<_;have h1:=congrArg List.length HD.out;rw [List.length_drop] at h1 ⊢;simp only [List.length_cons] at hk h1;omega
                clear hfar hk
                go_wp2_with fail
                refine hlet.mono ?_;rintro e w' ⟨rfl,rfl⟩
                go_wp2_with fail
                refine hlet2.mono ?_;rintro e w' ⟨rfl,rfl⟩
                go_wp2_with (at_builtin;go_must (refine wpList_append_own _ rfl (.tmp 81) (.tmp 85) 43 rfl w.heap.size 94 i0 (.agg #[.int .i64 0,.int .i64 0]) 2 16 Tryz.underlying43 hi0 hz0 hz1 hz2 rfl (by decide) _ _ _ rfl HO3.out ⟨wr.heap.size,0,none⟩ 1 1 (cellsR ⟨lo,hi⟩) rfl rfl (World.news_of_block HN3.out) (by simp [cellsR,Value.oneCell']) (by unfold maxLen;omega) (by omega) (by simp;omega) ?_);intro v' w6 hown' hgrow hnil)
                have hB6:Below w.heap.size w w6:=(hB.alloc hbs _).grown hgrow (by simp;omega) HFAR.out
                go_roundw
                case rel=>exact ⟨m2,k,acc++[⟨lo,hi⟩],by omega,by omega,rfl,HKL.out,by simp;omega,HE,by rw [cellsRs_snoc];simpa using hown',HF2,hB6⟩
                case measure=>simp [intOf];omega
end Go.Proofs.YtfdjchnckjgapaaGreatDoor
