/-
  RefLex
-/
import Derived.Test.YtfdjchnckjgapaaGreatDoorZ36
namespace Go.Proofs.YtfdjchnckjgapaaGreatDoor
set_option maxHeartbeats 4000000
set_option maxRecDepth 100000
open Go.RowKit Go.Shelf S1
set_option linter.unusedVariables false
theorem run_last {zs:List Int}:∀ {us:List U} {p q:Nat},Run zs p us q->∀(h:us.length-1<us.length),us[us.length-1].p+us[us.length-1].w=q
 | [],_,_,_,h=>by simp at h
 | [u],p,q,hr,h=>by
  have h1:u.p=p:=by rw [hr.2.1];rfl
  have h2:p+u.w=q:=hr.2.2
  show u.p+u.w=q
  omega
 | u::v::t,p,q,hr,h=>by
  have:=run_last (us:=v::t) hr.2.2 (by simp)
  simpa using this
theorem refAt_any (zs:List Int) (hz:zs.length<=10000) (us:List U) (hlen:us.length<=10000) (hrun:Run zs 0 us zs.length) (j:Nat) (hj:j<=us.length) (v:Value) (w:World) (hv:UnitsIn w v us) :
 Calls Tryz.prog 43 #[v,.int .i64 j] w fun e w'=>e = .returned (.int .i64 (atL zs.length (us.drop j):Int))/\∃nd,w'=w.drewN nd:=by
 obtain ⟨a,cap,rfl,hc,hi⟩:=hv
 obtain ⟨fin,hfin⟩ :∃fin,fin=atL zs.length (us.drop j):=⟨_,rfl⟩
 rw [<- hfin]
 by_cases hlt:j<us.length
 · obtain ⟨g,off,rfl,hg,c0,c1,c2,c3⟩:=hi j hlt
   have HF:Hid (fin=us[j].p):=by show _=_;rw [hfin,List.drop_eq_getElem_cons hlt];rfl
   rw [<- HF.out] at c1
   have hk0:(0:Int)<=(j:Int):=by omega
   have hk1:(j:Int)<(us.length:Int):=by omega
   clear hi c0 c2 c3 hfin
   go_enter Tryz.func43,Tryz.ntmps43
   go_wp2
   go_ret
   exact ⟨rfl,0,rfl⟩
 · obtain rfl:j=us.length:=by omega
   have hid:decide ((us.length:Int)<(us.length:Int))=false:=by simp
   by_cases h0:us.length=0
   · obtain rfl:us=[]:=List.length_eq_zero_iff.1 h0
     have e0:(0:Nat)=zs.length:=hrun
     have HF:Hid (fin=0):=by show _=_;rw [hfin];exact e0.symm
     clear hi hfin h0 hrun e0 hlt hid
     go_enter Tryz.func43,Tryz.ntmps43
     go_wp2
     go_ret
     exact ⟨by rw [HF.out];rfl,0,rfl⟩
   · have hl:=run_last hrun (by omega)
     obtain ⟨g,off,rfl,hg,c0,c1,c2,c3⟩:=hi (us.length-1) (by omega)
     have HF:Hid (fin=us[us.length-1].p+us[us.length-1].w):=by show _=_;rw [hfin,List.drop_length,hl];rfl
     have hle:us[us.length-1].p+us[us.length-1].w<=10000:=by omega
     obtain ⟨x,hx⟩ :∃x,x=us[us.length-1].p:=⟨_,rfl⟩
     obtain ⟨y,hy⟩ :∃y,y=us[us.length-1].w:=⟨_,rfl⟩
     rw [<- hx] at c1 hle HF
     rw [<- hy] at c2 hle HF
     have hne:((us.length:Int)==0)=false:=by simp;intro h;exact h0 (by rw [h];rfl)
     have hk0:(0:Int)<=(us.length:Int)-1:=by omega
     have hk1:(us.length:Int)-1<(us.length:Int):=by omega
     have hkt:((us.length:Int)-1).toNat=us.length-1:=by omega
     have h0':0<us.length:=by omega
     clear hi c0 c3 hfin hl hx hy hrun h0 hlt
     go_enter Tryz.func43,Tryz.ntmps43
     go_wp2
     go_quiet (fail)
     go_wp2
     go_ret
     exact ⟨by rw [HF.out];go_num,_,rfl⟩
theorem refBlank_any (us:List U) (hlen:us.length<=10000) (hok:Okay us) (j:Nat) (hj:j<=us.length) (v:Value) (w:World) (hv:UnitsIn w v us) :
 Calls Tryz.prog 40 #[v,.int .i64 j] w fun e w'=>e = .returned (.int .i64 ((us.length-(blankL false (us.drop j)).length:Nat):Int))/\w'=w:=by
 have HV:Hid (UnitsIn w v us):=hv
 obtain ⟨a,cap,rfl,hc,_⟩:=hv
 have HOK:Hid (Okay us):=hok
 obtain ⟨fin,hfin⟩ :∃fin,fin=blankL false (us.drop j):=⟨_,rfl⟩
 rw [<- hfin]
 have HF:Hid (fin=blankL false (us.drop j)):=hfin
 obtain ⟨fn,hfn⟩ :∃fn,fn=us.length-fin.length:=⟨_,rfl⟩
 rw [<- hfn]
 have HFN:Hid (fn=us.length-fin.length):=hfn
 clear hok hfin hfn
 go_enter Tryz.func40,Tryz.ntmps40
 go_wp2
 go_loopw [1] (fun xi wr=>∃k:Nat,k<=us.length/\xi = .int .i64 k/\Hid (fin=blankL false (us.drop k))/\wr=w) (fun xi _=>us.length-(intOf xi).toNat)
 case atStart=>exact ⟨j,hj,rfl,HF,rfl⟩
 case round =>
  obtain ⟨k,hk,rfl,HE,rfl⟩:=hrel
  cases hd:us.drop k with
  | nil =>
   have hkl:k=us.length:=by have:=congrArg List.length hd;simp at this;omega
   have HR:Hid (fn=k):=by
    show _=_
    rw [HFN.out,HE.out,hd,hkl];rfl
   subst hkl
   have hid:decide ((us.length:Int)<(us.length:Int))=false:=by simp
   clear hd
   go_wp2
   go_ret
   exact ⟨by rw [HR.out];rfl,rfl⟩
  | cons u t =>
   obtain ⟨hlt,hdt,hl1,hl0,hmem⟩:=drop_step hd
   have hoku:=HOK.out u hmem
   obtain ⟨g,off,rfl,c0,_,c3⟩:=HV.out.get k hlt hd
   have hk0:(0:Int)<=(k:Int):=by omega
   have hk1:(k:Int)<(us.length:Int):=by omega
   rw [hd] at HE
   have HD:Hid (us.drop k=u::t):=hd
   have HDT:Hid (us.drop (k+1)=t):=hdt
   have HL0:Hid (us.length-(u::t).length=k):=hl0
   obtain ⟨ur,hur⟩ :∃ur,ur=u.r:=⟨_,rfl⟩
   rw [<- hur] at c0 hoku
   have HUR:Hid (ur=u.r):=hur
   clear hd hdt hl1 hl0 hmem hur c3
   cases q35:(ur==35) with
   | true =>
    obtain rfl:ur=35:=by simpa using q35
    have hub:u.bad=false:=by
     cases hb:u.bad with
     | false=>rfl
     | true=>have:=hoku.1 hb;omega
    have HT:Hid (fin=blankL true (us.drop k)):=by
     show _=_
     rw [HE.out,HD.out]
     have h35:u.r=35:=HUR.out.symm
     simp [blankL,hub,h35]
    clear q35 hoku
    go_wp2
    obtain ⟨wo,rfl⟩ :∃wo:World,wo=wr:=⟨_,rfl⟩
    go_loopw [1] (fun xi wi=>∃k':Nat,k<=k'/\k'<=us.length/\xi = .int .i64 k'/\Hid (fin=blankL true (us.drop k'))/\wi=wo) (fun xi _=>us.length-(intOf xi).toNat)
    case atStart=>exact ⟨k,Nat.le_refl _,hk,rfl,HT,rfl⟩
    case round =>
     obtain ⟨m,hkm,hm,rfl,HM,rfl⟩:=hrel
     clear c0
     cases hd2:us.drop m with
     | nil =>
      have hml:m=us.length:=by have:=congrArg List.length hd2;simp at this;omega
      have HR:Hid (fin=blankL false (us.drop us.length)):=by
       show _=_
       rw [HM.out,hd2,List.drop_length];rfl
      subst hml
      have hid:decide ((us.length:Int)<(us.length:Int))=false:=by simp
      clear hd2
      go_wp2
      go_roundw
      case rel=>exact ⟨us.length,Nat.le_refl _,rfl,HR,trivial⟩
      case measure=>simp [intOf];omega
     | cons u2 t2 =>
      obtain ⟨hlt2,hdt2,hl1,hl0,hmem2⟩:=drop_step hd2
      have hoku2:=HOK.out u2 hmem2
      obtain ⟨g',off',eg,d0,_,d3⟩:=HV.out.get m hlt2 hd2
      obtain ⟨rfl,rfl⟩:g=g'/\off=off':=by simpa using eg
      have hm0:(0:Int)<=(m:Int):=by omega
      have hm1:(m:Int)<(us.length:Int):=by omega
      have HD2:Hid (us.drop m=u2::t2):=hd2
      have HDT2:Hid (us.drop (m+1)=t2):=hdt2
      have HL2:Hid (us.length-(u2::t2).length=m):=hl0
      obtain ⟨r2,hr2⟩ :∃r2,r2=u2.r:=⟨_,rfl⟩
      rw [<- hr2] at d0 hoku2
      have HR2:Hid (r2=u2.r):=hr2
      clear hd2 hdt2 hl1 hl0 hmem2 hr2 eg
      cases hb2:u2.bad with
      | true =>
       rw [hb2] at d3
       obtain rfl:r2=65533:=hoku2.1 hb2
       have HR:Hid (fn=m):=by
        show _=_
        rw [HFN.out,HM.out,HD2.out]
        simp only [blankL,hb2,if_true]
        exact HL2.out
       clear hoku2
       go_wp2
       go_ret
       exact ⟨by rw [HR.out];rfl,rfl⟩
      | false =>
       rw [hb2] at d3
       cases q10:(r2==10) with
       | true =>
        obtain rfl:r2=10:=by simpa using q10
        have hne:k≠m:=by
         rintro rfl
         have:u::t=u2::t2:=HD.out.symm.trans HD2.out
         injection this with e1 e2
         have h1:=HUR.out
         have h2:=HR2.out
         rw [e1] at h1
         omega
        have HR:Hid (fin=blankL false (us.drop m)):=by
         show _=_
         rw [HM.out,HD2.out]
         have h10:u2.r=10:=HR2.out.symm
         simp [blankL,hb2,h10,blankR]
        have hne':k<m:=by omega
        clear q10 hoku2 hne
        go_wp2
        go_roundw
        case rel=>exact ⟨m,by omega,rfl,HR,trivial⟩
        case measure=>simp [intOf];omega
       | false =>
        have q10':(r2 != 10)=true:=by simp only [bne,q10];rfl
        have HR:Hid (fin=blankL true (us.drop (m+1))):=by
         show _=_
         rw [HM.out,HD2.out,HDT2.out]
         have h10:u2.r≠10:=by rw [<- HR2.out];simpa using q10
         simp [blankL,hb2,h10]
        clear hoku2
        go_wp2
        go_roundw
        case rel=>exact ⟨m+1,by omega,by omega,by go_num,HR,trivial⟩
        case measure=>simp [intOf];omega
   | false =>
    have q35':u.r≠35:=by rw [<- HUR.out];simpa using q35
    have key:(blankR ur=true->fin=blankL false (us.drop (k+1)))/\(blankR ur=false->fn=k):=by
     refine ⟨fun h => ?_,fun h => ?_⟩
     · have hub:u.bad=false:=by
        cases hb:u.bad with
        | false=>rfl
        | true=>have:=hoku.1 hb;rw [this] at h;cases h
       rw [HE.out,HDT.out]
       rw [HUR.out] at h
       simp [blankL,hub,q35',h]
     · rw [HFN.out,HE.out]
       rw [HUR.out] at h
       have:blankL false (u::t)=u::t:=by
        cases hb:u.bad with
        | true=>simp [blankL,hb]
        | false=>simp [blankL,hb,q35',h]
       rw [this]
       exact HL0.out
    have HK:Hid ((blankR ur=true->fin=blankL false (us.drop (k+1)))/\(blankR ur=false->fn=k)):=key
    clear key q35' hoku
    have on:∀b,blankR ur=b->b=true->Hid (fin=blankL false (us.drop (k+1))):=fun b h1 h2=>HK.out.1 (h1.trans h2)
    cases q32:(ur==32) with
    | true =>
     have HR:=HK.out.1 (by simp [blankR,q32])
     have HR':Hid (fin=blankL false (us.drop (k+1))):=HR
     obtain rfl:ur=32:=by simpa using q32
     clear HR on q32 q35
     go_wp2
     go_roundw
     case rel=>exact ⟨k+1,by omega,by go_num,HR',trivial⟩
     case measure=>simp [intOf];omega
    | false=>cases q9:(ur==9) with
     | true =>
      have HR:=HK.out.1 (by simp [blankR,q9])
      have HR':Hid (fin=blankL false (us.drop (k+1))):=HR
      obtain rfl:ur=9:=by simpa using q9
      clear HR on q32 q35 q9
      go_wp2
      go_roundw
      case rel=>exact ⟨k+1,by omega,by go_num,HR',trivial⟩
      case measure=>simp [intOf];omega
     | false=>cases q10:(ur==10) with
      | true =>
       have HR:=HK.out.1 (by simp [blankR,q10])
       have HR':Hid (fin=blankL false (us.drop (k+1))):=HR
       obtain rfl:ur=10:=by simpa using q10
       clear HR on q32 q35 q9 q10
       go_wp2
       go_roundw
       case rel=>exact ⟨k+1,by omega,by go_num,HR',trivial⟩
       case measure=>simp [intOf];omega
      | false=>cases q13:(ur==13) with
       | true =>
        have HR:=HK.out.1 (by simp [blankR,q13])
        have HR':Hid (fin=blankL false (us.drop (k+1))):=HR
        obtain rfl:ur=13:=by simpa using q13
        clear HR on q32 q35 q9 q10 q13
        go_wp2
        go_roundw
        case rel=>exact ⟨k+1,by omega,by go_num,HR',trivial⟩
        case measure=>simp [intOf];omega
       | false =>
        have HR:Hid (fn=k):=HK.out.2 (by simp [blankR,q32,q9,q10,q13])
        have n32:(ur != 32)=true:=by simp only [bne,q32];rfl
        have n9:(ur != 9)=true:=by simp only [bne,q9];rfl
        have n10:(ur != 10)=true:=by simp only [bne,q10];rfl
        have n13:(ur != 13)=true:=by simp only [bne,q13];rfl
        clear on
        go_wp2
        go_ret
        exact ⟨by rw [HR.out];rfl,rfl⟩
def sgL:List Int:=[61,59,47,124,42,43,63,40,41,46,126,38,45]
theorem tok_mem (r:Int):tokR r=true↔r∈sgL:=by simp [tokR,sgL,or_assoc]
theorem refSign_any (r:Int) (w:World):Calls Tryz.prog 45 #[.int .i64 r] w fun e w'=>e = .returned (.bool (tokR r))/\Below w.heap.size w w':=by
 have hcv:=Go.Lib.run_convert_bytes_const (P:=Tryz.prog) w 22 5 (sgL.map (Value.int .u8)).toArray 13 13 Tryz.underlying22 Tryz.underlying5
 have hbl:=bytes_lit (w:=w) sgL 5 (13,14) 13 (Nat.le_refl _)
 have hB1:Below w.heap.size w (w.alloc (.cells (sgL.map (Value.int .u8)).toArray 5 (13,14))):=(Below.refl _ w).alloc (Nat.le_refl _) _
 obtain ⟨W1,hW1⟩ :∃W1,W1=w.alloc (.cells (sgL.map (Value.int .u8)).toArray 5 (13,14)):=⟨_,rfl⟩
 have hcv':(convert 22 22 (.slice (some ⟨w.heap.size,0,none⟩) 13 13)).run Tryz.prog (w.alloc (.cells #[.int .u8 61,.int .u8 59,.int .u8 47,.int .u8 124,.int .u8 42,.int .u8 43,.int .u8 63,.int .u8 40,.int .u8 41,.int .u8 46,.int .u8 126,.int .u8 38,.int .u8 45] 5)) = .ok (.slice (some ⟨w.heap.size,0,none⟩) 13 13) W1:=by rw [hW1];exact hcv
 rw [<- hW1] at hB1 hbl
 have HC:Hid (∀j,j<13->W1.cell? ⟨w.heap.size,j,none⟩=some (.int .u8 (sgL[j]?.getD 0))/\0<=sgL[j]?.getD 0/\sgL[j]?.getD 0<=127):=fun j hj=>by
  rcases hbl with ⟨_,_,_,e⟩ | ⟨b,off,c,e,_,_,hcell⟩
  · cases e
  · simp at e
    obtain ⟨⟨rfl,rfl⟩,_⟩:=e
    have:=hcell j hj
    rw [Nat.zero_add] at this
    refine ⟨this,?_⟩
    have key:∀i:Fin 13,0<=sgL[i.val]?.getD 0/\sgL[i.val]?.getD 0<=127:=by decide
    exact key ⟨j,hj⟩
 obtain ⟨fin,hfin⟩ :∃fin,fin=tokR r:=⟨_,rfl⟩
 rw [<- hfin]
 have HF:Hid (fin=tokR r):=hfin
 clear hW1 hcv hbl hfin
 go_enter Tryz.func45,Tryz.ntmps45
 go_wp2
 go_loopw [4] (fun xi wr=>∃k:Nat,k<=13/\xi = .int .i64 k/\(∀j,j<k->sgL[j]?.getD 0≠r)/\wr=W1) (fun xi _=>13-(intOf xi).toNat)
 case atStart=>exact ⟨0,by omega,rfl,fun j h=>by omega,rfl⟩
 case round =>
  obtain ⟨k,hk,rfl,hno,rfl⟩:=hrel
  have HNO:Hid (∀j,j<k->sgL[j]?.getD 0≠r):=hno
  clear hno
  by_cases hlt:k<13
  · obtain ⟨c0,hz0,hz1⟩:=HC.out k hlt
    obtain ⟨z,hz⟩ :∃z,z=sgL[k]?.getD 0:=⟨_,rfl⟩
    rw [<- hz] at c0 hz0 hz1
    have HZ:Hid (z=sgL[k]?.getD 0):=hz
    clear hz
    have hk0:(0:Int)<=(k:Int):=by omega
    have hk1:(k:Int)<13:=by omega
    by_cases q:z=r
    · subst q
      have HR:Hid (fin=true):=by
       show _=_
       rw [HF.out,tok_mem,HZ.out]
       have hkl:k<sgL.length:=hlt
       rw [List.getElem?_eq_getElem hkl]
       exact List.getElem_mem hkl
      go_wp2
      go_ret
      exact ⟨by rw [HR.out];rfl,hB1⟩
    · have q':(z==r)=false:=by simpa using q
      have HN2:Hid (∀j,j<k+1->sgL[j]?.getD 0≠r):=fun j h=>by
       by_cases e:j=k
       · subst e;rw [<- HZ.out];exact q
       · exact HNO.out j (by omega)
      clear q
      go_wp2
      go_roundw
      case rel=>exact ⟨k+1,by omega,by go_num,HN2.out,trivial⟩
      case measure=>simp [intOf];omega
  · obtain rfl:k=13:=by omega
    have HR:Hid (fin=false):=by
     show _=_
     rw [HF.out]
     cases h:tokR r with
     | false=>rfl
     | true =>
      obtain ⟨i,hi,e⟩:=List.getElem_of_mem ((tok_mem r).1 h)
      have:=HNO.out i hi
      rw [List.getElem?_eq_getElem hi] at this
      exact absurd e this
    go_wp2
    go_ret
    exact ⟨by rw [HR.out];rfl,hB1⟩
end Go.Proofs.YtfdjchnckjgapaaGreatDoor
