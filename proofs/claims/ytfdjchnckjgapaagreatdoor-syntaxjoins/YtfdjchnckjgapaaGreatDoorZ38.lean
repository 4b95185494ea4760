/-
  RefSet
-/
import Derived.Test.YtfdjchnckjgapaaGreatDoorZ37
import Derived.Test.YtfdjchnckjgapaaGreatDoorZ35
namespace Go.Proofs.YtfdjchnckjgapaaGreatDoor
set_option maxHeartbeats 8000000
set_option maxRecDepth 100000
open Go.RowKit Go.Shelf S1
set_option linter.unusedVariables false
def RSetT (N n:Nat) (vs:List U) (sr:SR) (w:World) (e:Ending) (w':World):Prop :=
 (∃r x,r <:+ vs/\sr=SR.bad (atL n r) x/\e = .returned (.tuple #[.slice none 0 0,.int .i64 ((N-r.length:Nat):Int),.int .i64 x])/\x≠0/\Below w.heap.size w w') \/
 (∃l r s v,sr=SR.good l r/\e = .returned (.tuple #[v,.int .i64 ((N-r.length:Nat):Int),.int .i64 0])/\Upto (hasR l) s 1114112/\w'.ownsRow w.heap.size 94 2 v s.length (cellsRs s)/\Below w.heap.size w w')
theorem stuckE_ne (r:List U):stuckE r≠0:=by cases r<;>simp [stuckE]
theorem refSet_any (zs:List Int) (us:List U) (hlen:us.length<=10000) (hrun:Run zs 0 us zs.length) (j:Nat) (hj:j<=us.length) (v:Value) (w:World) (hv:UnitsIn w v us) :
 Calls Tryz.prog 44 #[v,.int .i64 j] w fun e w'=>RSetT us.length zs.length (us.drop j) (setF zs.length ((us.drop j).length+1) (us.drop j) []) w e w':=by
 obtain ⟨i0,hi0,hz0,hz1,hz2⟩:=info_parts Tryz.infoRange
 have hok:Okay us:=Okay.of_run hrun
 have HLT:Hid (∀(k:Nat) W,k<=us.length->UnitsIn W v us->Calls Tryz.prog 87 #[v,.int .i64 k] W fun e w'=>e = .returned (litE us.length (letL (us.drop k)))/\W=w'):=fun k W hk h=>(refLetter_any us hlen hok k hk v W h).mono fun e w' h=>⟨h.1,h.2.symm⟩
 have HV:Hid (UnitsIn w v us):=hv
 obtain ⟨a,cap,rfl,hc,_⟩:=hv
 have HOK:Hid (Okay us):=hok
 obtain ⟨sr,hsr⟩ :∃sr,sr=setF zs.length ((us.drop j).length+1) (us.drop j) []:=⟨_,rfl⟩
 rw [<- hsr]
 have HSR:Hid (sr=setF zs.length ((us.drop j).length+1) (us.drop j) []):=hsr
 have hrn0:Runs zs us:=⟨0,hrun⟩
 have HRN:Hid (∀k,Runs zs (us.drop k)):=fun k=>hrn0.of_suffix (List.drop_suffix k us)
 clear hsr hok hrun hrn0
 go_enter Tryz.func44,Tryz.ntmps44
 go_wp2
 go_loopw [1,7] (fun xi v wr=>∃(i k:Nat) (acc:List Rg),i<=us.length/\j<=i/\xi = .int .i64 i/\(us.drop i).length<k/\acc.length<=i/\Hid (setF zs.length k (us.drop i) acc=sr)/\wr.ownsRow w.heap.size 94 2 v acc.length (cellsRs acc)/\Hid (Fits acc)/\Below w.heap.size w wr) (fun xi _ _=>us.length-(intOf xi).toNat)
 case atStart=>exact ⟨j,(us.drop j).length+1,[],hj,Nat.le_refl _,rfl,by omega,by simp,HSR.out.symm,World.ownsRow_nil _ _ _ _,(fun r h=>(by cases h)),Below.refl _ _⟩
 case round =>
  obtain ⟨i,k,acc,hil,hji,rfl,hk,hal,HEQ,ho,HFIT,hB⟩:=hrel
  have HO:Hid (wr.ownsRow w.heap.size 94 2 _ acc.length (cellsRs acc)):=ho
  have hbs:=hB.size
  have HVR:Hid (UnitsIn wr (.slice a us.length cap) us):=HV.out.below hB
  have HSUF:Hid (us.drop i <:+ us.drop j):=by
   show _ <:+ _
   rw [show us.drop i=(us.drop j).drop (i-j) by rw [List.drop_drop];congr 1;omega]
   exact List.drop_suffix _ _
  clear ho
  obtain ⟨k,rfl⟩ :∃m,k=m+1:=⟨k-1,by omega⟩
  cases hd:us.drop i with
  | nil =>
   have hie:i=us.length:=by have:=congrArg List.length hd;simp at this;omega
   have HE:Hid (sr=SR.bad (atL zs.length []) 7):=by
    show _=_
    rw [<- HEQ.out,hd]
    exact setF_stuck (r:=[]) (s:=[]) rfl rfl
   rw [hd] at HSUF
   subst hie
   have hge:decide ((us.length:Int)<=(us.length:Int))=true:=by simp
   clear hd hk
   go_wp2
   go_ret3
   exact .inl ⟨[],7,HSUF.out,HE.out,by simp,by decide,hB⟩
  | cons u t =>
   obtain ⟨hlt,hdt,hl1,hl0,hmem⟩:=drop_step hd
   have hoku:=HOK.out u hmem
   obtain ⟨g,off,rfl,c0,_,_⟩:=HVR.out.get i hlt hd
   have hge:decide ((us.length:Int)<=(i:Int))=false:=by simp;omega
   have hk0:(0:Int)<=(i:Int):=by omega
   have hk1:(i:Int)<(us.length:Int):=by omega
   have f93:fitU (isC 93) u=(u.r==93):=fit_eq hoku.1 rfl
   have HL1:Hid (us.length-t.length=i+1):=hl1
   have HD:Hid (us.drop i=u::t):=hd
   have hlet:=HLT.out i wr hil HVR.out
   rw [hd] at hk hlet
   obtain ⟨ur,hur⟩ :∃ur,ur=u.r:=⟨_,rfl⟩
   rw [<- hur] at c0 f93
   clear hd hdt hl1 hl0 hmem hur hoku
   cases q93:(ur==93) with
   | true =>
    have HS:Hid (sgn (isC 93) (us.drop i)=(some u.r,t)):=by show _=_;rw [HD.out,sgn_cons,f93,q93];simp
    have HE:Hid (sr=SR.good acc t):=by show _=_;rw [<- HEQ.out];exact setF_end HS.out
    obtain rfl:ur=93:=by simpa using q93
    have hmk:=refMake_any acc _ wr (by omega) (RngSrc.row HO.out)
    clear f93 q93 hlet hk
    go_wp2_with fail
    refine hmk.mono ?_
    rintro e w2 ⟨⟨hnf,_⟩ | ⟨_,s,v',hup,rfl,hown⟩,hB2⟩
    · exact absurd HFIT.out hnf
    · have HUP:Hid (Upto (hasR acc) s 1114112):=hup
      have HOW:Hid (w2.ownsRow w.heap.size 94 2 v' s.length (cellsRs s)):=own_mono hown hbs
      have hB02:Below w.heap.size w w2:=hB.trans (hB2.mono hbs)
      clear hmk hup hown
      go_wp2
      go_ret3
      exact .inr ⟨acc,t,s,v',HE.out,by rw [HL1.out];rfl,HUP.out,HOW.out,hB02⟩
   | false =>
    have HS:Hid (sgn (isC 93) (us.drop i)=(none,u::t)):=by show _=_;rw [HD.out,sgn_cons,f93,q93];simp
    have hsuf:=letL_suffix (u::t)
    have hln:=@letL_len (u::t)
    cases hx:letL (u::t) with
    | mk o r =>
     rw [hx] at hlet hsuf
     have hsufj:r <:+ us.drop i:=by rw [HD.out];exact hsuf
     obtain ⟨hdr,hir,hrl⟩:=suffix_drop hsufj
     have hir:=hir hil
     cases o with
     | none =>
      have HEN:Hid (entL (us.drop i)=(none,r)):=by show _=_;rw [HD.out];exact entL_a hx
      have HE:Hid (sr=SR.bad (atL zs.length r) (stuckE r)):=by show _=_;rw [<- HEQ.out];exact setF_stuck HS.out HEN.out
      have HSF:Hid (r <:+ us.drop j):=hsufj.trans HSUF.out
      rw [litE_none rfl] at hlet
      have hne:(stuckE r != 0)=true:=by simpa using stuckE_ne r
      clear hx hsuf hsufj hdr hir hln hk
      obtain ⟨idx,hidx⟩ :∃idx,idx=us.length-r.length:=⟨_,rfl⟩
      rw [<- hidx] at hlet
      have HIDX:Hid (idx=us.length-r.length):=hidx
      clear hidx
      obtain ⟨sx,hsx⟩ :∃sx,sx=stuckE r:=⟨_,rfl⟩
      rw [<- hsx] at hlet hne HE
      have HSX:Hid (sx≠0):=by show _≠_;rw [hsx];exact stuckE_ne r
      clear hsx
      go_wp2_with fail
      refine hlet.mono ?_
      rintro e w' ⟨rfl,rfl⟩
      go_wp2
      go_ret3
      exact .inl ⟨r,sx,HSF.out,HE.out,by rw [<- HIDX.out];rfl,HSX.out,hB⟩
     | some lo =>
      have hln:=hln hx
      rw [litE_some rfl] at hlet
      have hlo0:0<=lo:=letL_pos (by rw [<- HD.out];exact HRN.out i) hx
      obtain ⟨m,hm⟩ :∃m,m=us.length-r.length:=⟨_,rfl⟩
      rw [<- hm] at hlet hdr hir hrl
      have HM:Hid (m=us.length-r.length):=hm
      have hrlen:r.length<us.length:=by have:=hsufj.length_le;rw [HD.out] at this;have h2:=congrArg List.length HD.out;rw [List.length_drop] at h2;omega
      have him:i<m:=by
       have h2:=congrArg List.length HD.out
       rw [List.length_drop] at h2
       omega
      have HDR:Hid (us.drop m=r):=hdr
      have HSF:Hid (r <:+ us.drop j):=hsufj.trans HSUF.out
      have HX:Hid (letL (u::t)=(some lo,r)):=hx
      clear hx hsuf hsufj hdr hir hm hrlen
      cases hdm:us.drop m with
      | nil =>
       have hml:m=us.length:=by have:=congrArg List.length hdm;simp at this;omega
       have hr0:r=[]:=HDR.out.symm.trans hdm
       have HEN:Hid (entL (us.drop i)=(some ⟨lo,lo⟩,r)):=by show _=_;rw [HD.out];exact entL_b (a:=[]) HX.out (by rw [hr0];rfl)
       have hid:decide ((us.length:Int)<(us.length:Int))=false:=by simp
       subst hml
       clear hdm hr0
       by_cases q1:1114111<lo
       · have HE:Hid (sr=SR.bad (atL zs.length (us.drop i)) 1):=by show _=_;rw [<- HEQ.out];exact setF_arg HS.out HEN.out (by simp;omega)
         have HIX:Hid (us.length-(us.drop i).length=i):=drop_len hil
         go_wp2_with fail
         refine hlet.mono ?_
         rintro e w' ⟨rfl,rfl⟩
         go_wp2
         go_ret3
         exact .inl ⟨us.drop i,1,HSUF.out,HE.out,by rw [HIX.out];rfl,by decide,hB⟩
       · have q1':decide (1114111<lo)=false:=by simpa using q1
         have q3':decide (lo<lo)=false:=by simp
         have HE:Hid (setF zs.length k (us.drop us.length) (acc++[⟨lo,lo⟩])=sr):=by
          show _=_
          rw [<- HEQ.out,HDR.out]
          exact (setF_on HS.out HEN.out (by simp;omega)).symm
         have HF2:Hid (Fits (acc++[⟨lo,lo⟩])):=fun r h=>by
          rcases List.mem_append.1 h with h | h
          · exact HFIT.out r h
          · obtain rfl:r=⟨lo,lo⟩:=by simpa using h
            exact ⟨hlo0,by show lo<=lo;omega,by show lo<=1114111;omega⟩
         have HO3:Hid ((wr.alloc (.cells #[.int .i64 lo,.int .i64 lo] 94)).ownsRow w.heap.size 94 2 _ acc.length (cellsRs acc)):=World.ownsRow.alloc HO.out _
         have HN3:Hid _:=heap_new' wr (.cells #[.int .i64 lo,.int .i64 lo] 94)
         have hfar:∀j,Value.ownBlock u7=some j->w.heap.size<=j:=fun j e=>(World.ownsRow.lt HO3.out j e).1
         have HFAR:Hid (∀j,Value.ownBlock u7=some j->w.heap.size<=j):=hfar
         have HKL:Hid ((us.drop us.length).length<k):=by
          show _<_
          have h1:=congrArg List.length HD.out
          rw [List.length_drop] at h1 ⊢
          simp only [List.length_cons] at hk h1
          omega
         clear hfar hk
         go_wp2_with fail
         refine hlet.mono ?_
         rintro e w' ⟨rfl,rfl⟩
         go_wp2_with (at_builtin;go_must (refine wpList_append_own _ rfl (.tmp 81) (.tmp 85) 43 rfl w.heap.size 94 i0 (.agg #[.int .i64 0,.int .i64 0]) 2 16 Tryz.underlying43 hi0 hz0 hz1 hz2 rfl (by decide) _ _ _ rfl HO3.out ⟨wr.heap.size,0,none⟩ 1 1 (cellsR ⟨lo,lo⟩) rfl rfl (World.news_of_block HN3.out) (by simp [cellsR,Value.oneCell']) (by unfold maxLen;omega) (by omega) (by simp;omega) ?_);intro v' w6 hown' hgrow hnil)
         have hB6:Below w.heap.size w w6:=(hB.alloc hbs _).grown hgrow (by simp;omega) HFAR.out
         go_roundw
         case rel=>exact ⟨us.length,k,acc++[⟨lo,lo⟩],by omega,by omega,rfl,HKL.out,by simp;omega,HE,by rw [cellsRs_snoc];simpa using hown',HF2,hB6⟩
         case measure=>simp [intOf];omega
      | cons u2 t2 =>
       obtain ⟨hlt2,hdt2,hl2,hl2',hmem2⟩:=drop_step hdm
       have hoku2:=HOK.out u2 hmem2
       have hr2:r=u2::t2:=HDR.out.symm.trans hdm
       obtain ⟨g',off',eg,d0,_,_⟩:=HVR.out.get m hlt2 hdm
       obtain ⟨rfl,rfl⟩:g=g'/\off=off':=by simpa using eg
       have hm0:(0:Int)<=(m:Int):=by omega
       have hm1:(m:Int)<(us.length:Int):=by omega
       have f45:fitU (isC 45) u2=(u2.r==45):=fit_eq hoku2.1 rfl
       have hlet2:=HLT.out (m+1) wr hlt2 HVR.out
       rw [hdt2,show (((m+1:Nat)):Int)=(m:Int)+1 by omega] at hlet2
       have hl2h:Hid (us.length-t2.length=m+1):=hl2
       obtain ⟨r2,hr2'⟩ :∃r2,r2=u2.r:=⟨_,rfl⟩
       rw [<- hr2'] at d0 f45
       clear hdm hdt2 hl2 hl2' hmem2 hoku2 eg hr2'
       cases q45:(r2==45) with
       | false =>
        have HEN:Hid (entL (us.drop i)=(some ⟨lo,lo⟩,r)):=by show _=_;rw [HD.out];exact entL_b (a:=u2::t2) HX.out (by rw [hr2,sgn_cons,f45,q45];simp)
        clear hlet2 hr2 f45
        by_cases q1:1114111<lo
        · have HE:Hid (sr=SR.bad (atL zs.length (us.drop i)) 1):=by show _=_;rw [<- HEQ.out];exact setF_arg HS.out HEN.out (by simp;omega)
          have HIX:Hid (us.length-(us.drop i).length=i):=drop_len hil
          go_wp2_with fail
          refine hlet.mono ?_
          rintro e w' ⟨rfl,rfl⟩
          go_wp2
          go_ret3
          exact .inl ⟨us.drop i,1,HSUF.out,HE.out,by rw [HIX.out];rfl,by decide,hB⟩
        · have q1':decide (1114111<lo)=false:=by simpa using q1
          have q3':decide (lo<lo)=false:=by simp
          have HE:Hid (setF zs.length k (us.drop m) (acc++[⟨lo,lo⟩])=sr):=by
           show _=_
           rw [<- HEQ.out,HDR.out]
           exact (setF_on HS.out HEN.out (by simp;omega)).symm
          have HF2:Hid (Fits (acc++[⟨lo,lo⟩])):=fun r h=>by
           rcases List.mem_append.1 h with h | h
           · exact HFIT.out r h
           · obtain rfl:r=⟨lo,lo⟩:=by simpa using h
             exact ⟨hlo0,by show lo<=lo;omega,by show lo<=1114111;omega⟩
          have HO3:Hid ((wr.alloc (.cells #[.int .i64 lo,.int .i64 lo] 94)).ownsRow w.heap.size 94 2 _ acc.length (cellsRs acc)):=World.ownsRow.alloc HO.out _
          have HN3:Hid _:=heap_new' wr (.cells #[.int .i64 lo,.int .i64 lo] 94)
          have hfar:∀j,Value.ownBlock u7=some j->w.heap.size<=j:=fun j e=>(World.ownsRow.lt HO3.out j e).1
          have HFAR:Hid (∀j,Value.ownBlock u7=some j->w.heap.size<=j):=hfar
          have HKL:Hid ((us.drop m).length<k):=by
           show _<_
           have h1:=congrArg List.length HD.out
           rw [List.length_drop] at h1 ⊢
           simp only [List.length_cons] at hk h1
           omega
          clear hfar hk
          go_wp2_with fail
          refine hlet.mono ?_
          rintro e w' ⟨rfl,rfl⟩
          go_wp2_with (at_builtin;go_must (refine wpList_append_own _ rfl (.tmp 81) (.tmp 85) 43 rfl w.heap.size 94 i0 (.agg #[.int .i64 0,.int .i64 0]) 2 16 Tryz.underlying43 hi0 hz0 hz1 hz2 rfl (by decide) _ _ _ rfl HO3.out ⟨wr.heap.size,0,none⟩ 1 1 (cellsR ⟨lo,lo⟩) rfl rfl (World.news_of_block HN3.out) (by simp [cellsR,Value.oneCell']) (by unfold maxLen;omega) (by omega) (by simp;omega) ?_);intro v' w6 hown' hgrow hnil)
          have hB6:Below w.heap.size w w6:=(hB.alloc hbs _).grown hgrow (by simp;omega) HFAR.out
          go_roundw
          case rel=>exact ⟨m,k,acc++[⟨lo,lo⟩],by omega,by omega,rfl,HKL.out,by simp;omega,HE,by rw [cellsRs_snoc];simpa using hown',HF2,hB6⟩
          case measure=>simp [intOf];omega
       | true =>
        have HS2:Hid (sgn (isC 45) r=(some u2.r,t2)):=by show _=_;rw [hr2,sgn_cons,f45,q45];simp
        obtain rfl:r2=45:=by simpa using q45
        have hst2:t2 <:+ r:=by rw [hr2];exact List.suffix_cons _ _
        clear hr2 f45 q45
        have hsuf2:=letL_suffix t2
        cases hx2:letL t2 with
        | mk o b =>
         rw [hx2] at hlet2 hsuf2
         have hsufm:b <:+ us.drop (m+1):=by
          have:us.drop (m+1)=t2:=by
           have h1:=(suffix_drop (k:=0) (us:=us) (r:=t2) (by rw [List.drop_zero];exact hst2.trans (HDR.out ▸ List.drop_suffix m us))).1
           rw [hl2h.out] at h1
           exact h1
          rw [this];exact hsuf2
         obtain ⟨hdb,hmb,hbl⟩:=suffix_drop hsufm
         have hmb:=hmb hlt2
         cases o with
         | none =>
          have HEN:Hid (entL (us.drop i)=(none,b)):=by show _=_;rw [HD.out];exact entL_c HX.out HS2.out hx2
          have HE:Hid (sr=SR.bad (atL zs.length b) (stuckE b)):=by show _=_;rw [<- HEQ.out];exact setF_stuck HS.out HEN.out
          have HSFB:Hid (b <:+ us.drop j):=(hsuf2.trans hst2).trans HSF.out
          rw [litE_none rfl] at hlet2
          have hne:(stuckE b != 0)=true:=by simpa using stuckE_ne b
          clear hx2 hsuf2 hsufm hdb hmb hbl hk hst2
          obtain ⟨idx,hidx⟩ :∃idx,idx=us.length-b.length:=⟨_,rfl⟩
          rw [<- hidx] at hlet2
          have HIDX:Hid (idx=us.length-b.length):=hidx
          clear hidx
          obtain ⟨sx,hsx⟩ :∃sx,sx=stuckE b:=⟨_,rfl⟩
          rw [<- hsx] at hlet2 hne HE
          have HSX:Hid (sx≠0):=by show _≠_;rw [hsx];exact stuckE_ne b
          clear hsx
          go_wp2_with fail
          refine hlet.mono ?_
          rintro e w' ⟨rfl,rfl⟩
          go_wp2_with fail
          refine hlet2.mono ?_
          rintro e w' ⟨rfl,rfl⟩
          go_wp2
          go_ret3
          exact .inl ⟨b,sx,HSFB.out,HE.out,by rw [<- HIDX.out];rfl,HSX.out,hB⟩
         | some hi' =>
          obtain ⟨hi,rfl⟩ :∃hi,hi=hi':=⟨_,rfl⟩
          have HEN:Hid (entL (us.drop i)=(some ⟨lo,hi⟩,b)):=by show _=_;rw [HD.out];exact entL_d HX.out HS2.out hx2
          rw [litE_some rfl] at hlet2
          obtain ⟨m2,hm2⟩ :∃m2,m2=us.length-b.length:=⟨_,rfl⟩
          rw [<- hm2] at hlet2 hdb hmb hbl
          have HDB:Hid (us.drop m2=b):=hdb
          clear hx2 hsuf2 hsufm hdb hm2 hst2
          by_cases q1:1114111<lo
          · have HE:Hid (sr=SR.bad (atL zs.length (us.drop i)) 1):=by show _=_;rw [<- HEQ.out];exact setF_arg HS.out HEN.out (by simp;omega)
            have HIX:Hid (us.length-(us.drop i).length=i):=drop_len hil
            go_wp2_with fail
            refine hlet.mono ?_
            rintro e w' ⟨rfl,rfl⟩
            go_wp2_with fail
            refine hlet2.mono ?_
            rintro e w' ⟨rfl,rfl⟩
            go_wp2
            go_ret3
            exact .inl ⟨us.drop i,1,HSUF.out,HE.out,by rw [HIX.out];rfl,by decide,hB⟩
          · have q1':decide (1114111<lo)=false:=by simpa using q1
            by_cases q2:1114111<hi
            · have HE:Hid (sr=SR.bad (atL zs.length (us.drop i)) 1):=by show _=_;rw [<- HEQ.out];exact setF_arg HS.out HEN.out (by simp;omega)
              have HIX:Hid (us.length-(us.drop i).length=i):=drop_len hil
              go_wp2_with fail
              refine hlet.mono ?_
              rintro e w' ⟨rfl,rfl⟩
              go_wp2_with fail
              refine hlet2.mono ?_
              rintro e w' ⟨rfl,rfl⟩
              go_wp2
              go_ret3
              exact .inl ⟨us.drop i,1,HSUF.out,HE.out,by rw [HIX.out];rfl,by decide,hB⟩
            · have q2':decide (1114111<hi)=false:=by simpa using q2
              by_cases q3:hi<lo
              · have HE:Hid (sr=SR.bad (atL zs.length (us.drop i)) 1):=by show _=_;rw [<- HEQ.out];exact setF_arg HS.out HEN.out (by simp;omega)
                have HIX:Hid (us.length-(us.drop i).length=i):=drop_len hil
                go_wp2_with fail
                refine hlet.mono ?_
                rintro e w' ⟨rfl,rfl⟩
                go_wp2_with fail
                refine hlet2.mono ?_
                rintro e w' ⟨rfl,rfl⟩
                go_wp2
                go_ret3
                exact .inl ⟨us.drop i,1,HSUF.out,HE.out,by rw [HIX.out];rfl,by decide,hB⟩
              · have q3':decide (hi<lo)=false:=by simpa using q3
                have HE:Hid (setF zs.length k (us.drop m2) (acc++[⟨lo,hi⟩])=sr):=by
                 show _=_
                 rw [<- HEQ.out,HDB.out]
                 exact (setF_on HS.out HEN.out (by simp;omega)).symm
                have HF2:Hid (Fits (acc++[⟨lo,hi⟩])):=fun r h=>by
                 rcases List.mem_append.1 h with h | h
                 · exact HFIT.out r h
                 · obtain rfl:r=⟨lo,hi⟩:=by simpa using h
                   exact ⟨hlo0,by show lo<=hi;omega,by show hi<=1114111;omega⟩
                have HO3:Hid ((wr.alloc (.cells #[.int .i64 lo,.int .i64 hi] 94)).ownsRow w.heap.size 94 2 _ acc.length (cellsRs acc)):=World.ownsRow.alloc HO.out _
                have HN3:Hid _:=heap_new' wr (.cells #[.int .i64 lo,.int .i64 hi] 94)
                have hfar:∀j,Value.ownBlock u7=some j->w.heap.size<=j:=fun j e=>(World.ownsRow.lt HO3.out j e).1
                have HFAR:Hid (∀j,Value.ownBlock u7=some j->w.heap.size<=j):=hfar
                have HKL:Hid ((us.drop m2).length<k):=by
                 show _<_
                 have h1:=congrArg List.length HD.out
                 rw [List.length_drop] at h1 ⊢
                 simp only [List.length_cons] at hk h1
                 omega
                clear hfar hk
                go_wp2_with fail
                refine hlet.mono ?_
                rintro e w' ⟨rfl,rfl⟩
                go_wp2_with fail
                refine hlet2.mono ?_
                rintro e w' ⟨rfl,rfl⟩
                go_wp2_with (at_builtin;go_must (refine wpList_append_own _ rfl (.tmp 81) (.tmp 85) 43 rfl w.heap.size 94 i0 (.agg #[.int .i64 0,.int .i64 0]) 2 16 Tryz.underlying43 hi0 hz0 hz1 hz2 rfl (by decide) _ _ _ rfl HO3.out ⟨wr.heap.size,0,none⟩ 1 1 (cellsR ⟨lo,hi⟩) rfl rfl (World.news_of_block HN3.out) (by simp [cellsR,Value.oneCell']) (by unfold maxLen;omega) (by omega) (by simp;omega) ?_);intro v' w6 hown' hgrow hnil)
                have hB6:Below w.heap.size w w6:=(hB.alloc hbs _).grown hgrow (by simp;omega) HFAR.out
                go_roundw
                case rel=>exact ⟨m2,k,acc++[⟨lo,hi⟩],by omega,by omega,rfl,HKL.out,by simp;omega,HE,by rw [cellsRs_snoc];simpa using hown',HF2,hB6⟩
                case measure=>simp [intOf];omega
end Go.Proofs.YtfdjchnckjgapaaGreatDoor
