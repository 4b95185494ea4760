/-
  RefLit
-/
import Derived.Test.YtfdjchnckjgapaaGreatDoorZ34
import Derived.Test.YtfdjchnckjgapaaGreatDoorZ10
import Derived.BigQuiet
namespace Go.Proofs.YtfdjchnckjgapaaGreatDoor
set_option maxHeartbeats 4000000
set_option maxRecDepth 100000
open Go.RowKit Go.Shelf S1
set_option linter.unusedVariables false
def UnitsIn (w:World) (v:Value) (us:List U):Prop :=
 ∃a cap,v = .slice a us.length cap/\us.length<=cap/\∀i,(h:i<us.length)->∃g off,a=some ⟨g,off,none⟩/\g<w.heap.size/\w.cell? ⟨g,off+i*4,none⟩=some (.int .i64 us[i].r)/\w.cell? ⟨g,off+i*4+1,none⟩=some (.int .i64 (us[i].p:Int))/\w.cell? ⟨g,off+i*4+2,none⟩=some (.int .i64 (us[i].w:Int))/\w.cell? ⟨g,off+i*4+3,none⟩=some (.bool us[i].bad)
theorem units_of_row {w:World} {base:Nat} {v:Value} {us:List U} (h:w.ownsRow base 83 4 v us.length (cellsUs us)):UnitsIn w v us:=by
 rcases h.2 with ⟨rfl,h0⟩ | ⟨g,cap,cur,rfl,hb,hg,hc,hm,hs,ht⟩
 · exact ⟨none,0,by rw [h0],by omega,λi hi=>by omega⟩
 · refine ⟨_,cap,rfl,hc,λi hi=>⟨g,0,rfl,(Array.getElem?_eq_some_iff.1 hg).1,?_,?_,?_,?_⟩⟩
   · have:=h.cells (g:=g) rfl (i*4+0) (.int .i64 us[i].r) (by rw [cellsU_at us i 0 hi (by omega)];rfl);rw [add_lit'] at this;simpa using this
   · have:=h.cells (g:=g) rfl (i*4+1) (.int .i64 (us[i].p:Int)) (by rw [cellsU_at us i 1 hi (by omega)];rfl);rw [add_lit'] at this;simpa [Nat.add_assoc] using this
   · have:=h.cells (g:=g) rfl (i*4+2) (.int .i64 (us[i].w:Int)) (by rw [cellsU_at us i 2 hi (by omega)];rfl);rw [add_lit'] at this;simpa [Nat.add_assoc] using this
   · have:=h.cells (g:=g) rfl (i*4+3) (.bool us[i].bad) (by rw [cellsU_at us i 3 hi (by omega)];rfl);rw [add_lit'] at this;simpa [Nat.add_assoc] using this
theorem UnitsIn.below {w w':World} {v:Value} {us:List U} (h:UnitsIn w v us) (hb:Below w.heap.size w w'):UnitsIn w' v us:=by
 obtain ⟨a,cap,rfl,hc,hi⟩:=h;refine ⟨a,cap,rfl,hc,λi hlt => ?_⟩;obtain ⟨g,off,rfl,hg,h0,h1,h2,h3⟩:=hi i hlt;exact ⟨g,off,rfl,Nat.lt_of_lt_of_le hg hb.size,(hb.cell (p:=⟨g,_,none⟩) hg).trans h0,(hb.cell (p:=⟨g,_,none⟩) hg).trans h1,(hb.cell (p:=⟨g,_,none⟩) hg).trans h2,(hb.cell (p:=⟨g,_,none⟩) hg).trans h3⟩
theorem UnitsIn.drewN {w:World} {v:Value} {us:List U} (h:UnitsIn w v us) (n:Nat):UnitsIn (w.drewN n) v us:=h.below (below_drewN' (Below.refl _ _) n)
theorem refFigure_any (r:Int) (w:World) (h0:0<=r) (h1:r<=1114111):Calls Tryz.prog 149 #[.int .i64 r] w λe w'=>e = .returned (.int .i64 (figI r))/\w'=w:=by
 by_cases a:48<=r
 · by_cases b:r<=57
   · have e:figI r=r-48:=by simp [figI,figR,decB,figV,a,b]
     rw [e];go_enter Tryz.func149,Tryz.ntmps149;go_wp2;go_ret;exact ⟨rfl,rfl⟩
   · have b':decide (r<=57)=false:=by simpa using b
     by_cases c:65<=r
     · by_cases d:r<=70
       · have e:figI r=r-55:=by simp [figI,figR,decB,figV,a,b,c,d]
         rw [e];go_enter Tryz.func149,Tryz.ntmps149;go_wp2;go_ret;exact ⟨rfl,rfl⟩
       · have d':decide (r<=70)=false:=by simpa using d
         have e:figI r=-1:=by simp [figI,figR,decB,a,b,c,d]
         rw [e];go_enter Tryz.func149,Tryz.ntmps149;go_wp2;go_ret;exact ⟨rfl,rfl⟩
     · have c':decide (65<=r)=false:=by simpa using c
       have e:figI r=-1:=by simp [figI,figR,decB,a,b,c]
       rw [e];go_enter Tryz.func149,Tryz.ntmps149;go_wp2;go_ret;exact ⟨rfl,rfl⟩
 · have a':decide (48<=r)=false:=by simpa using a
   have c':decide (65<=r)=false:=by simp;omega
   have c:¬65<=r:=by omega
   have e:figI r=-1:=by simp [figI,figR,decB,a,c]
   rw [e];clear c;go_enter Tryz.func149,Tryz.ntmps149;go_wp2;go_ret;exact ⟨rfl,rfl⟩
theorem refSpecial_any (r:Int) (w:World):Calls Tryz.prog 122 #[.int .i64 r] w λe w'=>e = .returned (.bool (guardR r))/\w'=w:=by
 have key:∀b,guardR r=b->Calls Tryz.prog 122 #[.int .i64 r] w λe w'=>e = .returned (.bool b)/\w'=w:=λb hb=>by
  cases h1:(r==91) with
  | true =>
   obtain rfl:true=b:=by rw [<- hb];simp [guardR,h1]
   go_enter Tryz.func122,Tryz.ntmps122;go_wp2;go_ret;exact ⟨rfl,rfl⟩
  | false=>cases h2:(r==92) with
   | true =>
    obtain rfl:true=b:=by rw [<- hb];simp [guardR,h2]
    go_enter Tryz.func122,Tryz.ntmps122;go_wp2;go_ret;exact ⟨rfl,rfl⟩
   | false=>cases h3:(r==93) with
    | true =>
     obtain rfl:true=b:=by rw [<- hb];simp [guardR,h3]
     go_enter Tryz.func122,Tryz.ntmps122;go_wp2;go_ret;exact ⟨rfl,rfl⟩
    | false=>cases h4:(r==45) with
     | true =>
      obtain rfl:true=b:=by rw [<- hb];simp [guardR,h4]
      go_enter Tryz.func122,Tryz.ntmps122;go_wp2;go_ret;exact ⟨rfl,rfl⟩
     | false =>
      obtain rfl:false=b:=by rw [<- hb];simp [guardR,h1,h2,h3,h4]
      go_enter Tryz.func122,Tryz.ntmps122;go_wp2;go_ret;exact ⟨rfl,rfl⟩
 exact key _ rfl
theorem refNumber_any (us:List U) (hlen:us.length<=10000) (hok:Okay us) (j:Nat) (hj:j<=us.length) (v:Value) (w:World) (hv:UnitsIn w v us) :
 Calls Tryz.prog 123 #[v,.int .i64 j] w λe w'=>e = .returned (litE us.length (numL (us.drop j)))/\w'=w:=by
 obtain ⟨a,cap,rfl,hc,hi⟩:=hv;have HI:Hid (∀i,(h:i<us.length)->∃g off,a=some ⟨g,off,none⟩/\g<w.heap.size/\w.cell? ⟨g,off+i*4,none⟩=some (.int .i64 us[i].r)/\w.cell? ⟨g,off+i*4+1,none⟩=some (.int .i64 (us[i].p:Int))/\w.cell? ⟨g,off+i*4+2,none⟩=some (.int .i64 (us[i].w:Int))/\w.cell? ⟨g,off+i*4+3,none⟩=some (.bool us[i].bad)):=hi;have HOK:Hid (Okay us):=hok;obtain ⟨fin,hfin⟩ :∃fin,fin=litE us.length (numL (us.drop j)):=⟨_,rfl⟩;have HF:Hid (fin=litE us.length (numS 0 0 (us.drop j))):=by show _=_;rw [numS_zero];exact hfin
 rw [<- hfin];clear hi hok hfin;go_enter Tryz.func123,Tryz.ntmps123;go_wp2
 go_loopw [1,7,8] (λxi xn xm wr=>∃(k m:Nat) (n:Int),k<=us.length/\xi = .int .i64 k/\xn = .int .i64 n/\xm = .int .i64 m/\m<=6/\0<=n/\n<((16 ^ m:Nat):Int)/\Hid (fin=litE us.length (numS m n (us.drop k)))/\wr=w) (λxi _ _ _=>us.length-(intOf xi).toNat)
 case atStart=>exact ⟨j,0,0,hj,rfl,rfl,rfl,by omega,by omega,by simp,HF,rfl⟩
 case round =>
  obtain ⟨k,m,n,hk,rfl,rfl,rfl,hm,hn0,hn1,HE,rfl⟩:=hrel;by_cases hlt:k<us.length
  · obtain ⟨g,off,rfl,hg,c0,c1,c2,c3⟩:=HI.out k hlt;have hdr:us.drop k=us[k]::us.drop (k+1):=List.drop_eq_getElem_cons hlt;obtain ⟨u,hu⟩ :∃u,u=us[k]:=⟨_,rfl⟩;have hoku:=HOK.out u (by rw [hu];exact List.getElem_mem hlt);rw [<- hu] at c0 c1 c2 c3 hdr;have hf1:fitU figR u=figR u.r:=fit_eq hoku.1 rfl;have hf2:fitU (isC 125) u=isC 125 u.r:=fit_eq hoku.1 rfl;have hpw:n<16777216:=by
     have:(16 ^ m:Nat)<=16 ^ 6:=Nat.pow_le_pow_right (by omega) hm;have h2:(16 ^ 6:Nat)=16777216:=by decide
     omega
    have hc:=λW=>refFigure_any u.r W hoku.2.1 hoku.2.2;obtain ⟨ur,hur⟩ :∃ur,ur=u.r:=⟨_,rfl⟩;rw [<- hur] at c0 hf1 hf2 hc hoku;have hge:decide ((us.length:Int)<=(k:Int))=false:=by simp;omega
    have hk0:(0:Int)<=(k:Int):=by omega
    have hk1:(k:Int)<(us.length:Int):=by omega
    have HDR:Hid (us.drop k=u::us.drop (k+1)):=hdr;have HLN:Hid (us.length-(us.drop k).length=k):=drop_len hk;have HLN1:Hid (us.length-(us.drop (k+1)).length=k+1):=drop_len hlt;have HN1:Hid (n<((16 ^ m:Nat):Int)):=hn1;have HUR:Hid (ur=u.r):=hur;have HM:Hid (m<=6):=hm;clear c1 c2 c3 hu hdr hn1 hur hm;cases hf:figR ur with
    | true =>
     obtain ⟨e1,hv0,hv1⟩:=figI_yes hf;rw [e1] at hc;have HFV:Hid (figV ur=figV u.r):=by show _=_;rw [HUR.out]
     obtain ⟨fv,hfv⟩ :∃fv,fv=figV ur:=⟨_,rfl⟩;rw [<- hfv] at hc hv0 hv1 HFV;have hng:decide (fv<0)=false:=by simp;omega
     have hn125:(ur==125)=false:=by
      cases q:(ur==125) with
      | false=>rfl
      | true=>simp at q;rw [q] at hf;cases hf
     rw [hf] at hf1;have HF1:Hid (fitU figR u=true):=hf1;have HF2:Hid (fitU (isC 125) u=false):=by show _=_;rw [hf2];exact hn125
     clear hf hf1 hf2 e1 hfv;by_cases h6:m=6
     · have HR:Hid (fin = .tuple #[.int .i64 0,.int .i64 (k:Int),.int .i64 6]):=by
        show _=_;rw [HE.out,HDR.out,numS_stuck (.inr (by omega)) (.inr HF2.out)];have:=HLN.out;rw [HDR.out] at this;exact litE_none this
       subst h6;clear hoku
       go_wp2_with (go_at_call 149;refine (hc _).mono ?_;rintro e w' ⟨rfl,rfl⟩)
       go_ret3
       exact ⟨by rw [HR.out];rfl,rfl⟩
     · have hm6:((m:Int)==6)=false:=by simp;omega
       have hm5:m<6:=by have:=HM.out;omega
       have HR:Hid (fin=litE us.length (numS (m+1) (n*16+fv) (us.drop (k+1)))):=by
        show _=_;rw [HE.out,HDR.out,numS_step hm5 n HF1.out,HFV.out]
       have HN2:Hid (n*16+fv<((16 ^ (m+1):Nat):Int)):=by
        show _<_;have:=HN1.out;rw [Nat.pow_succ];omega
       clear hoku h6
       go_wp2_with (go_at_call 149;refine (hc _).mono ?_;rintro e w' ⟨rfl,rfl⟩)
       go_roundw
       case rel=>exact ⟨k+1,m+1,n*16+fv,by omega,by go_num,rfl,by go_num,by omega,by omega,HN2.out,HR,trivial⟩
       case measure=>simp [intOf];omega
    | false =>
     have e1:=figI_no hf;rw [e1] at hc;rw [hf] at hf1;have HF1:Hid (fitU figR u=false):=hf1;cases hq:(ur==125) with
     | true =>
      have HF2:Hid (fitU (isC 125) u=true):=by show _=_;rw [hf2];exact hq
      by_cases h0:0<m
      · have HR:Hid (fin = .tuple #[.int .i64 n,.int .i64 ((k:Int)+1),.int .i64 0]):=by
         show _=_;rw [HE.out,HDR.out,numS_end (.inl HF1.out) h0 HF2.out];exact litE_some HLN1.out
        have h0':decide (0<(m:Int))=true:=by simp;omega
        clear hoku hf hf1 hf2 e1
        go_wp2_with (go_at_call 149;refine (hc _).mono ?_;rintro e w' ⟨rfl,rfl⟩)
        go_ret3
        exact ⟨by rw [HR.out];rfl,rfl⟩
      · have HR:Hid (fin = .tuple #[.int .i64 0,.int .i64 (k:Int),.int .i64 6]):=by
         show _=_;rw [HE.out,HDR.out,numS_stuck (.inl HF1.out) (.inl (by omega))];have:=HLN.out;rw [HDR.out] at this;exact litE_none this
        obtain rfl:m=0:=by omega
        clear hoku hf hf1 hf2 e1
        go_wp2_with (go_at_call 149;refine (hc _).mono ?_;rintro e w' ⟨rfl,rfl⟩)
        go_ret3
        exact ⟨by rw [HR.out];rfl,rfl⟩
     | false =>
      have HF2:Hid (fitU (isC 125) u=false):=by show _=_;rw [hf2];exact hq
      have HR:Hid (fin = .tuple #[.int .i64 0,.int .i64 (k:Int),.int .i64 6]):=by
       show _=_;rw [HE.out,HDR.out,numS_stuck (.inl HF1.out) (.inr HF2.out)];have:=HLN.out;rw [HDR.out] at this;exact litE_none this
      clear hoku hf hf1 hf2 e1
      go_wp2_with (go_at_call 149;refine (hc _).mono ?_;rintro e w' ⟨rfl,rfl⟩)
      go_ret3
      exact ⟨by rw [HR.out];rfl,rfl⟩
  · obtain rfl:k=us.length:=by omega
    have HR:Hid (fin = .tuple #[.int .i64 0,.int .i64 (us.length:Int),.int .i64 7]):=by
     show _=_;rw [HE.out,List.drop_length,numS_nil];exact litE_none (by simp)
    have hge:decide ((us.length:Int)<=(us.length:Int))=true:=by simp
    go_wp2
    go_ret3
    exact ⟨by rw [HR.out];rfl,rfl⟩
theorem UnitsIn.get {w:World} {a:Option Addr} {n cap:Nat} {us:List U} (h:UnitsIn w (.slice a n cap) us) (k:Nat) (hk:k<us.length) {u:U} {t:List U} (hd:us.drop k=u::t) :
 ∃g off,a=some ⟨g,off,none⟩/\w.cell? ⟨g,off+k*4,none⟩=some (.int .i64 u.r)/\w.cell? ⟨g,off+k*4+1,none⟩=some (.int .i64 (u.p:Int))/\w.cell? ⟨g,off+k*4+3,none⟩=some (.bool u.bad):=by
 obtain ⟨a',c',e,_,hi⟩:=h
 injection e with e1 e2 e3
 subst e1;obtain ⟨g,off,rfl,_,c0,c1,_,c3⟩:=hi k hk;have:us[k]=u:=by rw [List.drop_eq_getElem_cons hk] at hd;injection hd
 rw [this] at c0 c1 c3;exact ⟨g,off,rfl,c0,c1,c3⟩
theorem drop_step {us:List U} {k:Nat} {u:U} {t:List U} (hd:us.drop k=u::t):k<us.length/\us.drop (k+1)=t/\us.length-t.length=k+1/\us.length-(u::t).length=k/\u∈us:=by
 have hk:k<us.length:=by
  rcases Nat.lt_or_ge k us.length with q | q
  · exact q
  · rw [List.drop_eq_nil_of_le q] at hd;cases hd
 have hl:=congrArg List.length hd;rw [List.length_drop,List.length_cons] at hl;refine ⟨hk,?_,by omega,by rw [List.length_cons];omega,?_⟩
 · rw [List.drop_eq_getElem_cons hk] at hd;injection hd
 · have:u∈us.drop k:=by rw [hd];simp
   exact List.mem_of_mem_drop this
theorem letL_nil:letL []=(none,[]):=rfl
theorem letL_plain {u:U} {t:List U} (h:fitU (isC 92) u=false):letL (u::t)=if fitU plainR u=true then (some u.r,t) else (none,u::t):=by
 unfold letL;rw [sgn_cons,h];simp only [Bool.false_eq_true,if_false];rw [sgn_cons]
theorem letL_back {u:U} {t:List U} (h:fitU (isC 92) u=true):letL (u::t)=match sgn (isC 120) t with
 | (none,_)=>sgn guardR t
 | (some _,b)=>match sgn (isC 123) b with
  | (none,_)=>(none,b)
  | (some _,c)=>numL c:=by
 unfold letL;rw [sgn_cons,h];simp only [if_true];rfl
theorem refLetter_any (us:List U) (hlen:us.length<=10000) (hok:Okay us) (j:Nat) (hj:j<=us.length) (v:Value) (w:World) (hv:UnitsIn w v us) :
 Calls Tryz.prog 87 #[v,.int .i64 j] w λe w'=>e = .returned (litE us.length (letL (us.drop j)))/\w'=w:=by
 have hN:=λ(k:Nat) (hk:k<=us.length) W (h:UnitsIn W v us)=>refNumber_any us hlen hok k hk v W h
 have HV:Hid (UnitsIn w v us):=hv;obtain ⟨a,cap,rfl,hc,_⟩:=hv;obtain ⟨fin,hfin⟩ :∃fin,fin=litE us.length (letL (us.drop j)):=⟨_,rfl⟩;rw [<- hfin];cases hd:us.drop j with
 | nil =>
  have hjl:j=us.length:=by have:=congrArg List.length hd;simp at this;omega
  have HR:Hid (fin = .tuple #[.int .i64 0,.int .i64 (j:Int),.int .i64 7]):=by
   show _=_;rw [hfin,hd,letL_nil];exact litE_none (by simp;omega)
  have hge:us.length<=j:=by omega
  clear hfin hd hN hjl hok;go_enter Tryz.func87,Tryz.ntmps87;go_wp2
  go_ret3
  exact ⟨by rw [HR.out];rfl,rfl⟩
 | cons u t =>
  obtain ⟨hk,hdt,hl1,hl0,hmem⟩:=drop_step hd;have hoku:=hok u hmem;obtain ⟨g,off,rfl,c0,_,c3⟩:=HV.out.get j hk hd;have hge:decide ((us.length:Int)<=(j:Int))=false:=by simp;omega
  have hk0:(0:Int)<=(j:Int):=by omega
  have hk1:(j:Int)<(us.length:Int):=by omega
  have f92:fitU (isC 92) u=(u.r==92):=fit_eq hoku.1 rfl;rw [hd] at hfin;have HFIN:Hid (fin=litE us.length (letL (u::t))):=hfin;have HL1:Hid (us.length-t.length=j+1):=hl1;have HL0:Hid (us.length-(u::t).length=j):=hl0;have HDT:Hid (us.drop (j+1)=t):=hdt;have HOK:Hid (Okay us):=hok;have HN:=hN;clear hfin hl1 hl0 hdt hok hN hmem hd;have hsp:=λW=>refSpecial_any u.r W;have fpl:fitU plainR u=(!u.bad&&plainR u.r):=rfl;obtain ⟨ur,hur⟩ :∃ur,ur=u.r:=⟨_,rfl⟩;obtain ⟨ub,hub⟩ :∃ub,ub=u.bad:=⟨_,rfl⟩;rw [<- hur] at c0 f92 hoku hsp fpl;rw [<- hub] at c3 hoku fpl;have HUR:Hid (ur=u.r):=hur;clear hur hub;cases q92:(ur==92) with
  | false =>
   have q92':(ur != 92)=true:=by simp only [bne,q92];rfl
   rw [q92] at f92;have HLT:Hid (letL (u::t)=if fitU plainR u=true then (some u.r,t) else (none,u::t)):=letL_plain f92;cases qp:fitU plainR u with
   | true =>
    rw [qp] at fpl;have hub:ub=false:=by cases ub with | false=>rfl | true=>simp at fpl
    subst hub;have hpl:plainR ur=true:=by simpa using fpl.symm
    have h32:decide (ur<32)=false:=by simp [plainR] at hpl;simp;omega
    have hg:guardR ur=false:=by simp [plainR] at hpl;exact hpl.2
    rw [hg] at hsp;have HR:Hid (fin = .tuple #[.int .i64 ur,.int .i64 ((j:Int)+1),.int .i64 0]):=by
     show _=_;rw [HFIN.out,HLT.out,if_pos qp,HUR.out];exact litE_some HL1.out
    clear fpl hpl hg qp f92 hoku HN;go_enter Tryz.func87,Tryz.ntmps87
    go_wp2_with (go_at_call 122;refine (hsp _).mono ?_;rintro e w' ⟨rfl,rfl⟩)
    go_ret3
    exact ⟨by rw [HR.out];rfl,rfl⟩
   | false =>
    have HR:Hid (fin = .tuple #[.int .i64 0,.int .i64 (j:Int),.int .i64 6]):=by
     show _=_;rw [HFIN.out,HLT.out,if_neg (by rw [qp];simp)];exact litE_none HL0.out
    rw [qp] at fpl;clear f92 hoku HN qp;cases ub with
    | true =>
     clear fpl;go_enter Tryz.func87,Tryz.ntmps87
     go_wp2_with (go_at_call 122;refine (hsp _).mono ?_;rintro e w' ⟨rfl,rfl⟩)
     go_ret3
     exact ⟨by rw [HR.out];rfl,rfl⟩
    | false =>
     by_cases h32:ur<32
     · clear fpl;go_enter Tryz.func87,Tryz.ntmps87
       go_wp2_with (go_at_call 122;refine (hsp _).mono ?_;rintro e w' ⟨rfl,rfl⟩)
       go_ret3
       exact ⟨by rw [HR.out];rfl,rfl⟩
     · have h32':decide (ur<32)=false:=by simpa using h32
       have hg:guardR ur=true:=by
        cases hq:guardR ur with
        | true=>rfl
        | false=>simp [plainR,hq] at fpl;omega
       rw [hg] at hsp;clear fpl hg;go_enter Tryz.func87,Tryz.ntmps87
       go_wp2_with (go_at_call 122;refine (hsp _).mono ?_;rintro e w' ⟨rfl,rfl⟩)
       go_ret3
       exact ⟨by rw [HR.out];rfl,rfl⟩
  | true =>
   obtain rfl:ur=92:=by simpa using q92
   have hub:ub=false:=by
    cases ub with
    | false=>rfl
    | true=>have:=hoku.1 rfl;omega
   subst hub;rw [show ((92:Int)==92)=true from rfl] at f92;have HLT:Hid _:=letL_back (t:=t) f92;have hsp2:∀W,Calls Tryz.prog 122 #[.int .i64 92] W λe w'=>e = .returned (.bool true)/\w'=W:=hsp;clear f92 fpl q92 hoku hsp;cases hd2:us.drop (j+1) with
   | nil =>
    have hjl:us.length<=j+1:=by have:=congrArg List.length hd2;simp at this;omega
    have ht:t=[]:=HDT.out.symm.trans hd2;have HR:Hid (fin = .tuple #[.int .i64 0,.int .i64 ((j:Int)+1),.int .i64 7]):=by
     show _=_;rw [HFIN.out,HLT.out,ht];have:=HL1.out;rw [ht] at this;exact litE_none this
    have hge2:decide ((us.length:Int)<=(j:Int)+1)=true:=by simp;omega
    clear hd2 ht HN;go_enter Tryz.func87,Tryz.ntmps87
    go_wp2_with (go_at_call 122;refine (hsp2 _).mono ?_;rintro e w' ⟨rfl,rfl⟩)
    go_ret3
    exact ⟨by rw [HR.out];rfl,rfl⟩
   | cons u2 t2 =>
    obtain ⟨hk2,hdt2,hl2,hl2',hmem2⟩:=drop_step hd2;have hoku2:=HOK.out u2 hmem2;have ht:t=u2::t2:=HDT.out.symm.trans hd2;obtain ⟨g',off',eg,d0,_,_⟩:=HV.out.get (j+1) hk2 hd2;obtain ⟨rfl,rfl⟩:g=g'/\off=off':=by simpa using eg
    have hge2:decide ((us.length:Int)<=(j:Int)+1)=false:=by simp;omega
    have hk20:(0:Int)<=(j:Int)+1:=by omega
    have hk21:(j:Int)+1<(us.length:Int):=by omega
    have hkt:((j:Int)+1).toNat=j+1:=by omega
    have f120:fitU (isC 120) u2=(u2.r==120):=fit_eq hoku2.1 rfl;have fgd:fitU guardR u2=guardR u2.r:=fit_eq hoku2.1 rfl;have hspu:=λW=>refSpecial_any u2.r W;have HL2:Hid (us.length-t2.length=j+2):=hl2;have HL2':Hid (us.length-(u2::t2).length=j+1):=hl2';have HD2:Hid (us.drop (j+1)=u2::t2):=hd2;have HDT2:Hid (us.drop (j+2)=t2):=hdt2;obtain ⟨r2,hr2⟩ :∃r2,r2=u2.r:=⟨_,rfl⟩;rw [<- hr2] at d0 f120 fgd hspu;have HR2:Hid (r2=u2.r):=hr2;have HT:Hid (t=u2::t2):=ht;clear hd2 hl2 hl2' hdt2 hmem2 hoku2 eg hr2 ht;cases q120:(r2==120) with
    | false =>
     have q120':(r2 != 120)=true:=by simp only [bne,q120];rfl
     have HS1:Hid (sgn (isC 120) (u2::t2)=(none,u2::t2)):=by show _=_;rw [sgn_cons,f120,q120];simp
     cases hg2:guardR r2 with
     | true =>
      have HR:Hid (fin = .tuple #[.int .i64 r2,.int .i64 ((j:Int)+2),.int .i64 0]):=by
       show _=_;rw [HFIN.out,HLT.out,HT.out,HS1.out];simp only;rw [sgn_cons,fgd,hg2,HR2.out];exact litE_some HL2.out
      rw [hg2] at hspu;clear f120 fgd hg2 HN;go_enter Tryz.func87,Tryz.ntmps87
      go_wp2_with fail
      refine (hsp2 _).mono ?_;rintro e w' ⟨rfl,rfl⟩
      go_wp2_with fail
      refine (hspu _).mono ?_;rintro e w' ⟨rfl,rfl⟩;go_wp2
      go_ret3
      exact ⟨by rw [HR.out];rfl,rfl⟩
     | false =>
      have HR:Hid (fin = .tuple #[.int .i64 0,.int .i64 ((j:Int)+1),.int .i64 6]):=by
       show _=_;rw [HFIN.out,HLT.out,HT.out,HS1.out];simp only;rw [sgn_cons,fgd,hg2];exact litE_none HL2'.out
      rw [hg2] at hspu;clear f120 fgd hg2 HN;go_enter Tryz.func87,Tryz.ntmps87
      go_wp2_with fail
      refine (hsp2 _).mono ?_;rintro e w' ⟨rfl,rfl⟩
      go_wp2_with fail
      refine (hspu _).mono ?_;rintro e w' ⟨rfl,rfl⟩;go_wp2
      go_ret3
      exact ⟨by rw [HR.out];rfl,rfl⟩
    | true =>
     obtain rfl:r2=120:=by simpa using q120
     have HS1:Hid (sgn (isC 120) (u2::t2)=(some u2.r,t2)):=by show _=_;rw [sgn_cons,f120];simp
     have hspx:∀W,Calls Tryz.prog 122 #[.int .i64 120] W λe w'=>e = .returned (.bool false)/\w'=W:=hspu;clear f120 fgd q120 hspu;cases hd3:us.drop (j+2) with
     | nil =>
      have hjl:us.length<=j+2:=by have:=congrArg List.length hd3;simp at this;omega
      have ht:t2=[]:=HDT2.out.symm.trans hd3;have HR:Hid (fin = .tuple #[.int .i64 0,.int .i64 ((j:Int)+2),.int .i64 7]):=by
       show _=_;rw [HFIN.out,HLT.out,HT.out,HS1.out,ht];have:=HL2.out;rw [ht] at this;exact litE_none this
      have hge3:decide ((us.length:Int)<=(j:Int)+2)=true:=by simp;omega
      clear hd3 ht HN;go_enter Tryz.func87,Tryz.ntmps87
      go_wp2_with fail
      refine (hsp2 _).mono ?_;rintro e w' ⟨rfl,rfl⟩
      go_wp2_with fail
      refine (hspx _).mono ?_;rintro e w' ⟨rfl,rfl⟩;go_wp2
      go_ret3
      exact ⟨by rw [HR.out];rfl,rfl⟩
     | cons u3 t3 =>
      obtain ⟨hk3,hdt3,hl3,hl3',hmem3⟩:=drop_step hd3;have hoku3:=HOK.out u3 hmem3;have ht:t2=u3::t3:=HDT2.out.symm.trans hd3;obtain ⟨g',off',eg,d1,_,_⟩:=HV.out.get (j+2) hk3 hd3;obtain ⟨rfl,rfl⟩:g=g'/\off=off':=by simpa using eg
      have hge3:decide ((us.length:Int)<=(j:Int)+2)=false:=by simp;omega
      have hk30:(0:Int)<=(j:Int)+2:=by omega
      have hk31:(j:Int)+2<(us.length:Int):=by omega
      have hkt3:((j:Int)+2).toNat=j+2:=by omega
      have f123:fitU (isC 123) u3=(u3.r==123):=fit_eq hoku3.1 rfl;have hN3:=HN (j+3) hk3 w HV.out;rw [hdt3,show (((j+3:Nat)):Int)=(j:Int)+3 by omega] at hN3;have HL3':Hid (us.length-(u3::t3).length=j+2):=hl3';obtain ⟨r3,hr3⟩ :∃r3,r3=u3.r:=⟨_,rfl⟩;rw [<- hr3] at d1 f123;have HT2:Hid (t2=u3::t3):=ht;clear hd3 hl3 hl3' hdt3 hmem3 hoku3 eg hr3 ht HN;cases q123:(r3==123) with
      | false =>
       have q123':(r3 != 123)=true:=by simp only [bne,q123];rfl
       have HS2:Hid (sgn (isC 123) (u3::t3)=(none,u3::t3)):=by show _=_;rw [sgn_cons,f123,q123];simp
       have HR:Hid (fin = .tuple #[.int .i64 0,.int .i64 ((j:Int)+2),.int .i64 6]):=by
        show _=_;rw [HFIN.out,HLT.out,HT.out,HS1.out,HT2.out];simp only;rw [HS2.out];exact litE_none HL3'.out
       clear f123 hN3;go_enter Tryz.func87,Tryz.ntmps87
       go_wp2_with fail
       refine (hsp2 _).mono ?_;rintro e w' ⟨rfl,rfl⟩
       go_wp2_with fail
       refine (hspx _).mono ?_;rintro e w' ⟨rfl,rfl⟩;go_wp2
       go_ret3
       exact ⟨by rw [HR.out];rfl,rfl⟩
      | true =>
       obtain rfl:r3=123:=by simpa using q123
       have HS2:Hid (sgn (isC 123) (u3::t3)=(some u3.r,t3)):=by show _=_;rw [sgn_cons,f123];simp
       have HR:Hid (fin=litE us.length (numL t3)):=by
        show _=_;rw [HFIN.out,HLT.out,HT.out,HS1.out,HT2.out];simp only;rw [HS2.out]
       have hex :∃x y z,fin = .tuple #[.int .i64 x,.int .i64 y,.int .i64 z]:=by
        rw [HR.out];cases hnl:numL t3 with
        | mk o r=>cases o with
         | some v=>exact ⟨_,_,_,litE_some rfl⟩
         | none=>exact ⟨_,_,_,litE_none rfl⟩
       rw [<- HR.out] at hN3;obtain ⟨x,y,z,rfl⟩:=hex;clear f123 q123;go_enter Tryz.func87,Tryz.ntmps87
       go_wp2_with fail
       refine (hsp2 _).mono ?_;rintro e w' ⟨rfl,rfl⟩
       go_wp2_with fail
       refine (hspx _).mono ?_;rintro e w' ⟨rfl,rfl⟩
       go_wp2_with fail
       refine hN3.mono ?_;rintro e w' ⟨rfl,rfl⟩;go_wp2
       go_ret3
       exact ⟨rfl,rfl⟩
end Go.Proofs.YtfdjchnckjgapaaGreatDoor
