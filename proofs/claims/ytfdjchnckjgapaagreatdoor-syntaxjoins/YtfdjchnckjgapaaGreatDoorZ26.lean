/-
  RSumP RTermP
-/
import Derived.Test.YtfdjchnckjgapaaGreatDoorZ25
import Derived.Test.YtfdjchnckjgapaaGreatDoorZ24
namespace Go.Proofs.YtfdjchnckjgapaaGreatDoor
set_option maxHeartbeats 16000000
set_option maxRecDepth 100000
open Go.RowKit Go.Shelf S1
set_option linter.unusedVariables false
theorem RngS.src {Q:Nat->Prop} {w:World} {v:Value} {l:List Rg} (h:RngS Q w v l) (hq:∀k,Q k->k<w.heap.size):RngSrc w v l:=by
 refine ⟨h.rng hq,?_⟩;obtain ⟨a,cap,rfl,hc,hn,hi⟩:=h
 match a,hn,hi with
 | none,hn,hi =>
  have h0:l=[]:=by
   match l,hi with
   | [],_=>rfl
   | r::t,hi=>obtain ⟨g,off,e,_⟩:=hi 0 (by simp);cases e
  subst h0;obtain rfl:=hn rfl;exact .inl ⟨rfl,rfl,rfl⟩
 | some ad,hn,hi =>
  refine .inr ⟨ad,cap,rfl,by rw [cellsRs_length],λj u hj => ?_,cellsRs_one l⟩;have hlt:j<l.length*2:=by rw [<- cellsRs_length];exact (List.getElem?_eq_some_iff.1 hj).1
  have hi2:j / 2<l.length:=by omega
  obtain ⟨g,off,e,_,h0,h1⟩:=hi (j / 2) hi2
  injection e with e
  subst e;have hadd:(⟨g,off,none⟩:Addr).add j=⟨g,off+j,none⟩:=addr_add g off j;rw [hadd];rcases Nat.mod_two_eq_zero_or_one j with q | q
  · have ej:j=j / 2*2+0:=by omega
    rw [ej,cellsRs_at l (j / 2) 0 hi2 (by omega)] at hj;have:u = .int .i64 l[j / 2].lo:=by simpa [cellsR] using hj.symm
    rw [this,show off+j=off+j / 2*2 by omega];exact h0
  · have ej:j=j / 2*2+1:=by omega
    rw [ej,cellsRs_at l (j / 2) 1 hi2 (by omega)] at hj;have:u = .int .i64 l[j / 2].hi:=by simpa [cellsR] using hj.symm
    rw [this,show off+j=off+j / 2*2+1 by omega];exact h1
def GT (E:List Int) (ts:List Tok):Prop:=∀t∈ts,GS E t.s
def GN (E:List Int) (N:Nms):Prop:=∀x s,N x=some s->GS E s
theorem GT.left {E:List Int} {ts r:List Tok} (h:GT E ts) (hl:Left ts r):GT E r:=λt ht=>h t (hl.2.2 t ht)
theorem setM_gs {E:List Int} {N:Nms} {t:Tok} {s:List Rg} (ht:GS E t.s) (hN:GN E N) (h:setM N t = .inr s):GS E s:=by
 unfold setM at h
 split at h
 · cases h;exact ht
 · split at h
   · cases h;exact GS.all E
   · split at h
     · split at h
       · rename_i s' he;cases h;exact hN _ _ he
       · cases h
     · cases h
def RQA (c:Pc) (X:Nat->Prop) (P:Nat) (E:List Int) (st:Sts) (q:QR) (w:World) (e:Ending) (w':World):Prop :=
 ∃v s r x,e = .returned v/\GS E s/\RngS (Im X w' P) w' v s/\Pa c X P w' r st x/\Fr w.heap.size P w w'/\((x≠0/\q = .inl (r,((x:Nat):Int)))\/(x=0/\q = .inr (s,r)))
def RTermC (b:Nat):Prop:=∀(c:Pc) (X:Nat->Prop) (P:Nat) (w:World) (ts:List Tok) (st:Sts) (dp:Nat) (E:List Int),dp+b=20->E.length<=10000->GT E ts->GN E c.N->Pa c X P w ts st 0->Calls Tryz.prog 89 #[.pointer (some ⟨P,0,none⟩),.int .i64 (dp:Int)] w λe w'=>RQA c X P E st (termM c.N b ts) w e w'
def RSumC (b:Nat):Prop:=∀(c:Pc) (X:Nat->Prop) (P:Nat) (w:World) (ts:List Tok) (st:Sts) (dp:Nat) (E:List Int),dp+b=20->E.length<=10000->GT E ts->GN E c.N->Pa c X P w ts st 0->Calls Tryz.prog 49 #[.pointer (some ⟨P,0,none⟩),.int .i64 (dp:Int)] w λe w'=>RQA c X P E st (sumM c.N b ts) w e w'
def JoinR (E:List Int) (g:Nat) (op:List Rg->List Rg->List Rg):Prop:=∀(a b:List Rg) (va vb:Value) (w:World),GS E a->GS E b->RngSrc w va a->RngSrc w vb b->Calls Tryz.prog g #[va,vb] w λe w'=>∃v,e = .returned v/\GS E (op a b)/\w'.ownsRow w.heap.size 94 2 v (op a b).length (cellsRs (op a b))/\Below w.heap.size w w'
theorem joinROr {E:List Int} (hE:E.length<=10000):JoinR E 90 orS:=λa b va vb w ha hb hva hvb=>(refOr_any a b ha.1 hb.1 (by have:=stb_len ha.1 ha.2;omega) (by have:=stb_len hb.1 hb.2;omega) va vb w hva hvb).mono (by
 rintro e w' ⟨l,v,rfl,hu,ho,hB⟩;obtain rfl:l=orS a b:=hu.unique (pickS_upto _ ha.1 hb.1);exact ⟨v,rfl,stb_pick ha hb,ho,hB⟩)
theorem joinRLess {E:List Int} (hE:E.length<=10000):JoinR E 91 lessS:=λa b va vb w ha hb hva hvb=>(refLess_any a b ha.1 hb.1 (by have:=stb_len ha.1 ha.2;omega) (by have:=stb_len hb.1 hb.2;omega) va vb w hva hvb).mono (by
 rintro e w' ⟨l,v,rfl,hu,ho,hB⟩;obtain rfl:l=lessS a b:=hu.unique (pickS_upto _ ha.1 hb.1);exact ⟨v,rfl,stb_pick ha hb,ho,hB⟩)
theorem joinRAnd {E:List Int} (hE:E.length<=10000):JoinR E 92 andS:=λa b va vb w ha hb hva hvb=>(refAnd_any a b ha.1 hb.1 (by have:=stb_len ha.1 ha.2;omega) (by have:=stb_len hb.1 hb.2;omega) va vb w hva hvb).mono (by
 rintro e w' ⟨l,v,rfl,hu,ho,hB⟩;obtain rfl:l=andS a b:=hu.unique (pickS_upto _ ha.1 hb.1);exact ⟨v,rfl,stb_pick ha hb,ho,hB⟩)
theorem sign_other {x y:Int} {t:Tok} (h:tkSign x t=true) (hne:x≠y):tkSign y t=false:=by
 obtain ⟨h1,h2⟩:=sign_k h;unfold tkSign;rw [h1,h2];simp [hne]
theorem Pa.adv {c:Pc} {X:Nat->Prop} {P:Nat} {w:World} {t:Tok} {r:List Tok} {st:Sts} {d:Nat} (h:Pa c X P w (t::r) st d) (hk:t.k≠4) :∃k:Nat,k<=70000/\w.cell? ⟨P,1,none⟩=some (.int .i64 (k:Int))/\w.frozen? ⟨P,1,none⟩=false/\Pa c X P (w.setCell ⟨P,1,none⟩ (.int .i64 ((k:Int)+1))) r st d:=by
 obtain ⟨k,v,hk1,hn,hc,c0,c1,f1,hg,t0,t1,t2,t3,hr,_,_,_,hnx⟩:=h.next;exact ⟨k,by omega,c1,f1,hnx hk⟩
theorem rsum_of (b:Nat) (ht:RTermC b):RSumC b:=λc X P w ts st dp E hdb hE hgt hgn hpa=>by
 have h1:=ht c X P w ts st dp E hdb hE hgt hgn hpa;obtain ⟨q,hq⟩ :∃q,q=sumM c.N b ts:=⟨_,rfl⟩;rw [<- hq];have HQ:Hid (q=sumG (termM c.N b) ts):=hq;have HT:Hid (RTermC b):=ht;have HGT:Hid (GT E ts):=hgt;have HGN:Hid (GN E c.N):=hgn;have hdp:(dp:Int)<=20:=by omega
 clear hq hpa ht hgt hgn;go_enter Tryz.func49,Tryz.ntmps49
 go_wp2_with fail
 refine h1.mono ?_;rintro e w1 ⟨v,s,r,x,rfl,hs,hr,hp,hf,hx⟩;have HX:Hid ((x≠0/\q = .inl (r,((x:Nat):Int)))\/(x=0/\∃k,r.length<k/\sumF (termM c.N b) k s r=q)):=by
  rcases hx with ⟨e1,e2⟩ | ⟨e1,e2⟩
  · refine .inl ⟨e1,?_⟩;rw [HQ.out];unfold sumG;rw [e2]
  · refine .inr ⟨e1,r.length+1,by omega,?_⟩;rw [HQ.out];unfold sumG;rw [e2]
 have HGR:Hid (GT E r):=by
  have hL:=termM_left c.N b ts;rcases hx with ⟨e1,e2⟩ | ⟨e1,e2⟩
  · rw [e2] at hL;exact HGT.out.left hL
  · rw [e2] at hL;exact HGT.out.left (LeftS.left hL)
 obtain ⟨va,vc,rfl⟩:=hr.slice;have HR:Hid (RngS (Im X w1 P) w1 (.slice va s.length vc) s):=hr;clear h1 hx hr;go_wp2
 go_loopw [5] (λv wr=>∃(a:Option Addr) (cp:Nat) (x:Nat) (s:List Rg) (r:List Tok),v = .slice a s.length cp/\GS E s/\RngS (Im X wr P) wr (.slice a s.length cp) s/\Pa c X P wr r st x/\Fr w.heap.size P w wr/\Hid (GT E r)/\Hid ((x≠0/\q = .inl (r,((x:Nat):Int)))\/(x=0/\∃k,r.length<k/\sumF (termM c.N b) k s r=q))) (λ_ wr=>leftP c.n wr P)
 case atStart=>exact ⟨va,vc,x,s,r,rfl,hs,HR.out,hp,hf,HGR,HX⟩
 case round =>
  obtain ⟨a,cp,x,s,r,rfl,hs,hr,hp,hf,HGR,hx⟩:=hrel;have hl0:=hp.left;have hPl:=hp.lt;obtain ⟨c5,_,_⟩:=hp.dep;have HS:Hid (GS E s):=hs;have HR:Hid (RngS (Im X wr P) wr (.slice a s.length cp) s):=hr;have HF:Hid (Fr w.heap.size P w wr):=hf;clear hs hr hf;rcases hx.out with ⟨hx0,hxq⟩ | ⟨rfl,k,hk,hkq⟩
  · have hx':((x:Int)==0)=false:=by simp;omega
    have HE:Hid (x≠0/\q = .inl (r,((x:Nat):Int))):=⟨hx0,hxq⟩;clear hx0 hxq hx;go_wp2;go_ret;exact ⟨_,s,r,x,rfl,HS.out,HR.out,hp,HF.out,.inl HE.out⟩
  · obtain ⟨t,r,rfl⟩:=hp.ends.cons;obtain ⟨k,rfl⟩ :∃m,k=m+1:=⟨k-1,by omega⟩;have HKQ:Hid (sumF (termM c.N b) (k+1) s (t::r)=q):=hkq;have HK:Hid ((t::r).length<k+1):=hk;have HPR:Hid (Pa c X P wr (t::r) st 0):=hp;clear hx hkq hk hp;have h2:Calls Tryz.prog 88 #[.pointer (some ⟨P,0,none⟩),.string ⟨#[43]⟩] wr λe w'=>AnsB wr (decide (0=0)&&tkSign 43 t) e w':=ris_any c X P wr t r st 0 HPR.out 43 (by decide);simp only [decide_true,Bool.true_and] at h2
    go_wp2_with fail
    refine h2.mono ?_;rintro e w2 ⟨rfl,hB2⟩;clear h2;have hp2:=HPR.out.below hB2;have h3:Calls Tryz.prog 88 #[.pointer (some ⟨P,0,none⟩),.string ⟨#[45]⟩] w2 λe w'=>AnsB w2 (decide (0=0)&&tkSign 45 t) e w':=ris_any c X P w2 t r st 0 hp2 45 (by decide);simp only [decide_true,Bool.true_and] at h3
    go_wp2_with fail
    refine h3.mono ?_;rintro e w3 ⟨rfl,hB3⟩;clear h3;have hB23:=below_after hB2 hB3;have hp3:=HPR.out.below hB23;have h4:Calls Tryz.prog 88 #[.pointer (some ⟨P,0,none⟩),.string ⟨#[38]⟩] w3 λe w'=>AnsB w3 (decide (0=0)&&tkSign 38 t) e w':=ris_any c X P w3 t r st 0 hp3 38 (by decide);simp only [decide_true,Bool.true_and] at h4
    go_wp2_with fail
    refine h4.mono ?_;rintro e w4 ⟨rfl,hB4⟩;clear h4;have hB24:=below_after hB23 hB4;have hp4:=HPR.out.below hB24;have HF4:Hid (Fr w.heap.size P w w4):=HF.out.then (HPR.out.fr hB24) HF.out.size
    have HR4:Hid (RngS (Im X w4 P) w4 (.slice a s.length cp) s):=HR.out.fr (HPR.out.fr hB24);have HP4:Hid (Pa c X P w4 (t::r) st 0):=hp4;have hPl4:=hp4.lt;clear hB2 hB3 hB23 hB4 hB24 hp2 hp3 hp4 HF HR HPR c5;have STEP:Hid (∀op,opOf t=some op->∀(w5:World) (v5:Value) (s5:List Rg) (r5:List Tok) (x5:Nat),((x5≠0/\termM c.N b r = .inl (r5,((x5:Nat):Int)))\/(x5=0/\termM c.N b r = .inr (s5,r5)))->r5.length<=r.length/\GT E r5/\((x5≠0/\q = .inl (r5,((x5:Nat):Int)))\/(x5=0/\∃k,r5.length<k/\sumF (termM c.N b) k (op s s5) r5=q))):=λop ho w5 v5 s5 r5 x5 hx5=>by
     have hL:=termM_left c.N b r;have e0:=HKQ.out;unfold sumF at e0;simp only [hdT,ho,List.tail_cons] at e0;have hkk:=HK.out;simp at hkk;have hgr:GT E r:=λy hy=>HGR.out y (by simp [hy]);rcases hx5 with ⟨q1,q2⟩ | ⟨q1,q2⟩
     · rw [q2] at hL e0;exact ⟨hL.1,hgr.left hL,.inl ⟨q1,e0.symm⟩⟩
     · rw [q2] at hL e0;exact ⟨Nat.le_of_lt hL.1,hgr.left (LeftS.left hL),.inr ⟨q1,k,by have:=hL.1;omega,e0⟩⟩
    cases s43:tkSign 43 t with
    | true =>
     have s45:tkSign 45 t=false:=sign_other s43 (by decide);have s38:tkSign 38 t=false:=sign_other s43 (by decide);have HO:Hid (opOf t=some orS):=by
      show _=_;simp [opOf,s43]
     obtain ⟨kk,hkk,c1,f1,hp5⟩:=HP4.out.adv (sign_end s43);have hf5:Fr w4.heap.size P w4 (w4.setCell ⟨P,1,none⟩ (.int .i64 ((kk:Int)+1))):=fr_own w4 1 (by decide) _;have h5:=HT.out c X P _ r st dp E hdb hE (λy hy=>HGR.out y (by simp [hy])) HGN.out hp5;have HF5:Hid (Fr w.heap.size P w (w4.setCell ⟨P,1,none⟩ (.int .i64 ((kk:Int)+1)))):=HF4.out.then hf5 HF4.out.size
     have HR5:Hid (RngS (Im X (w4.setCell ⟨P,1,none⟩ (.int .i64 ((kk:Int)+1))) P) (w4.setCell ⟨P,1,none⟩ (.int .i64 ((kk:Int)+1))) (.slice a s.length cp) s):=HR4.out.fr hf5;clear hf5 hp5
     go_wp2_with fail
     refine h5.mono ?_;rintro e w6 ⟨v6,s6,r6,x6,rfl,hs6,hr6,hp6,hf6,hx6⟩;have hst:=STEP.out _ HO.out w6 v6 s6 r6 x6 hx6;have hF6:=HF5.out.then hf6 HF5.out.size
     have h7:=joinROr hE s s6 (.slice a s.length cp) v6 w6 HS.out hs6 ((HR5.out.fr hf6).src (λk hk=>hk.1)) (hr6.src (λk hk=>hk.1));obtain ⟨a6,c6,rfl⟩:=hr6.slice;have HST:Hid (r6.length<=r.length/\GT E r6/\((x6≠0/\q = .inl (r6,((x6:Nat):Int)))\/(x6=0/\∃k,r6.length<k/\sumF (termM c.N b) k (orS s s6) r6=q))):=hst;have HF6:Hid (Fr w.heap.size P w w6):=hF6;clear h5 hs6 hr6 hf6 hx6 hst hF6 c1 f1
     go_wp2_with fail
     refine h7.mono ?_;rintro e w7 ⟨v7,rfl,hs7,ho7,hB7⟩;have hr7:=hp6.rngS hB7 ho7;have hp7:=hp6.below hB7;have hf7:=HF6.out.then (hp6.fr hB7) HF6.out.size
     obtain ⟨a7,c7,rfl⟩:=hr7.slice;clear h7 ho7;go_wp2
     go_roundw
     case rel=>exact ⟨a7,c7,x6,orS s s6,r6,rfl,hs7,hr7,hp7,hf7,HST.out.2.1,HST.out.2.2⟩
     case measure=>rw [hp7.left,hl0];have:=HST.out.1;simp;omega
    | false =>
     cases s45:tkSign 45 t with
     | true =>
      have s38:tkSign 38 t=false:=sign_other s45 (by decide);have HO:Hid (opOf t=some lessS):=by
       show _=_;simp [opOf,s43,s45]
      obtain ⟨kk,hkk,c1,f1,hp5⟩:=HP4.out.adv (sign_end s45);have hf5:Fr w4.heap.size P w4 (w4.setCell ⟨P,1,none⟩ (.int .i64 ((kk:Int)+1))):=fr_own w4 1 (by decide) _;have h5:=HT.out c X P _ r st dp E hdb hE (λy hy=>HGR.out y (by simp [hy])) HGN.out hp5;have HF5:Hid (Fr w.heap.size P w (w4.setCell ⟨P,1,none⟩ (.int .i64 ((kk:Int)+1)))):=HF4.out.then hf5 HF4.out.size
      have HR5:Hid (RngS (Im X (w4.setCell ⟨P,1,none⟩ (.int .i64 ((kk:Int)+1))) P) (w4.setCell ⟨P,1,none⟩ (.int .i64 ((kk:Int)+1))) (.slice a s.length cp) s):=HR4.out.fr hf5;clear hf5 hp5
      go_wp2_with fail
      refine h5.mono ?_;rintro e w6 ⟨v6,s6,r6,x6,rfl,hs6,hr6,hp6,hf6,hx6⟩;have hst:=STEP.out _ HO.out w6 v6 s6 r6 x6 hx6;have hF6:=HF5.out.then hf6 HF5.out.size
      have h7:=joinRLess hE s s6 (.slice a s.length cp) v6 w6 HS.out hs6 ((HR5.out.fr hf6).src (λk hk=>hk.1)) (hr6.src (λk hk=>hk.1));obtain ⟨a6,c6,rfl⟩:=hr6.slice;have HST:Hid (r6.length<=r.length/\GT E r6/\((x6≠0/\q = .inl (r6,((x6:Nat):Int)))\/(x6=0/\∃k,r6.length<k/\sumF (termM c.N b) k (lessS s s6) r6=q))):=hst;have HF6:Hid (Fr w.heap.size P w w6):=hF6;clear h5 hs6 hr6 hf6 hx6 hst hF6 c1 f1
      go_wp2_with fail
      refine h7.mono ?_;rintro e w7 ⟨v7,rfl,hs7,ho7,hB7⟩;have hr7:=hp6.rngS hB7 ho7;have hp7:=hp6.below hB7;have hf7:=HF6.out.then (hp6.fr hB7) HF6.out.size
      obtain ⟨a7,c7,rfl⟩:=hr7.slice;clear h7 ho7;go_wp2
      go_roundw
      case rel=>exact ⟨a7,c7,x6,lessS s s6,r6,rfl,hs7,hr7,hp7,hf7,HST.out.2.1,HST.out.2.2⟩
      case measure=>rw [hp7.left,hl0];have:=HST.out.1;simp;omega
     | false =>
      cases s38:tkSign 38 t with
      | true =>
       have HO:Hid (opOf t=some andS):=by
        show _=_;simp [opOf,s43,s45,s38]
       obtain ⟨kk,hkk,c1,f1,hp5⟩:=HP4.out.adv (sign_end s38);have hf5:Fr w4.heap.size P w4 (w4.setCell ⟨P,1,none⟩ (.int .i64 ((kk:Int)+1))):=fr_own w4 1 (by decide) _;have h5:=HT.out c X P _ r st dp E hdb hE (λy hy=>HGR.out y (by simp [hy])) HGN.out hp5;have HF5:Hid (Fr w.heap.size P w (w4.setCell ⟨P,1,none⟩ (.int .i64 ((kk:Int)+1)))):=HF4.out.then hf5 HF4.out.size
       have HR5:Hid (RngS (Im X (w4.setCell ⟨P,1,none⟩ (.int .i64 ((kk:Int)+1))) P) (w4.setCell ⟨P,1,none⟩ (.int .i64 ((kk:Int)+1))) (.slice a s.length cp) s):=HR4.out.fr hf5;clear hf5 hp5
       go_wp2_with fail
       refine h5.mono ?_;rintro e w6 ⟨v6,s6,r6,x6,rfl,hs6,hr6,hp6,hf6,hx6⟩;have hst:=STEP.out _ HO.out w6 v6 s6 r6 x6 hx6;have hF6:=HF5.out.then hf6 HF5.out.size
       have h7:=joinRAnd hE s s6 (.slice a s.length cp) v6 w6 HS.out hs6 ((HR5.out.fr hf6).src (λk hk=>hk.1)) (hr6.src (λk hk=>hk.1));obtain ⟨a6,c6,rfl⟩:=hr6.slice;have HST:Hid (r6.length<=r.length/\GT E r6/\((x6≠0/\q = .inl (r6,((x6:Nat):Int)))\/(x6=0/\∃k,r6.length<k/\sumF (termM c.N b) k (andS s s6) r6=q))):=hst;have HF6:Hid (Fr w.heap.size P w w6):=hF6;clear h5 hs6 hr6 hf6 hx6 hst hF6 c1 f1
       go_wp2_with fail
       refine h7.mono ?_;rintro e w7 ⟨v7,rfl,hs7,ho7,hB7⟩;have hr7:=hp6.rngS hB7 ho7;have hp7:=hp6.below hB7;have hf7:=HF6.out.then (hp6.fr hB7) HF6.out.size
       obtain ⟨a7,c7,rfl⟩:=hr7.slice;clear h7 ho7;go_wp2
       go_roundw
       case rel=>exact ⟨a7,c7,x6,andS s s6,r6,rfl,hs7,hr7,hp7,hf7,HST.out.2.1,HST.out.2.2⟩
       case measure=>rw [hp7.left,hl0];have:=HST.out.1;simp;omega
      | false =>
       have HE:Hid (q = .inr (s,t::r)):=by
        show _=_;have ho:opOf t=none:=by simp [opOf,s43,s45,s38]
        rw [<- HKQ.out];unfold sumF;simp only [hdT,ho]
       go_wp2;go_ret;exact ⟨_,s,t::r,0,rfl,HS.out,HR4.out,HP4.out,HF4.out,.inr ⟨rfl,HE.out⟩⟩
set_option maxHeartbeats 16000000
set_option maxRecDepth 100000
theorem notR {E:List Int} (hE:E.length<=10000) (a:List Rg) (va:Value) (w:World) (ha:GS E a) (hva:RngSrc w va a):Calls Tryz.prog 124 #[va] w λe w'=>∃v,e = .returned v/\GS E (notS a)/\w'.ownsRow w.heap.size 94 2 v (notS a).length (cellsRs (notS a))/\Below w.heap.size w w':=(refNot_any a ha.1 (by have:=stb_len ha.1 ha.2;omega) va w hva).mono (by
 rintro e w' ⟨l,v,rfl,hu,ho,hB⟩;obtain rfl:l=notS a:=hu.unique (notS_upto ha.1);exact ⟨v,rfl,stb_pick ha (GS.nil E),ho,hB⟩)
theorem RngS.none {Q:Nat->Prop} {w:World}:RngS Q w (.slice none 0 0) []:=RngS.nil _ _
theorem rterm_step (b:Nat) (ih:∀m,b=m+1->RTermC m):RTermC b:=λc X P w ts st dp E hdb hE hgt hgn hpa=>by
 obtain ⟨t,r,rfl⟩:=hpa.ends.cons;obtain ⟨q,hq⟩ :∃q,q=termM c.N b (t::r):=⟨_,rfl⟩;have HQ:Hid (q=termG c.N (innerT c.N b) (t::r)):=hq.trans (termM_eq _ _ _);rw [<- hq];have HI:Hid (∀m,b=m+1->RTermC m):=ih;have HGR:Hid (GT E r):=λy hy=>hgt y (by simp [hy]);have HGT:Hid (GS E t.s):=hgt t (by simp);have HGN:Hid (GN E c.N):=hgn;have HP:Hid (Pa c X P w (t::r) st 0):=hpa;have hdp:(dp:Int)<=20:=by omega
 have h1:Calls Tryz.prog 88 #[.pointer (some ⟨P,0,none⟩),.string ⟨#[126]⟩] w λe w'=>AnsB w (decide (0=0)&&tkSign 126 t) e w':=ris_any c X P w t r st 0 hpa 126 (by decide);simp only [decide_true,Bool.true_and] at h1;clear hq ih hgt hgn hpa;go_enter Tryz.func89,Tryz.ntmps89
 go_wp2_with fail
 refine h1.mono ?_;rintro e w1 ⟨rfl,hB1⟩;clear h1;have h2:Calls Tryz.prog 88 #[.pointer (some ⟨P,0,none⟩),.string ⟨#[40]⟩] w1 λe w'=>AnsB w1 (decide (0=0)&&tkSign 40 t) e w':=ris_any c X P w1 t r st 0 (HP.out.below hB1) 40 (by decide);simp only [decide_true,Bool.true_and] at h2
 go_wp2_with fail
 refine h2.mono ?_;rintro e w2 ⟨rfl,hB2⟩;clear h2;have hB:=below_after hB1 hB2;have HP2:Hid (Pa c X P w2 (t::r) st 0):=HP.out.below hB;have HF2:Hid (Fr w.heap.size P w w2):=HP.out.fr hB;have hPl:=HP2.out.lt;clear hB1 hB2 hB HP;by_cases hb:b=0
 · subst hb;have hd2:decide ((dp:Int) ≥ 20)=true:=by simp;omega
   cases s126:tkSign 126 t with
   | true =>
    have HE:Hid (q = .inl (t::r,3)):=by
     show _=_;rw [HQ.out];unfold termG;simp only [hdT,s126,if_true];rfl
    have h3:=fail_any c X P w2 st 0 HP2.out 3 (by decide)
    go_wp2_with fail
    refine h3.mono ?_;rintro e w3 ⟨rfl,hp3,hf3⟩;clear h3;go_wp2;go_ret;exact ⟨_,[],t::r,3,rfl,GS.nil E,RngS.none,hp3,HF2.out.then hf3 HF2.out.size,.inl ⟨by decide,HE.out⟩⟩
   | false =>
    cases s40:tkSign 40 t with
    | true =>
     have HE:Hid (q = .inl (t::r,3)):=by
      show _=_;rw [HQ.out];unfold termG;simp only [hdT,s126,s40,if_true];rfl
     have h3:=fail_any c X P w2 st 0 HP2.out 3 (by decide)
     go_wp2_with fail
     refine h3.mono ?_;rintro e w3 ⟨rfl,hp3,hf3⟩;clear h3;go_wp2;go_ret;exact ⟨_,[],t::r,3,rfl,GS.nil E,RngS.none,hp3,HF2.out.then hf3 HF2.out.size,.inl ⟨by decide,HE.out⟩⟩
    | false =>
     have h3:=rset_any c X P w2 t r st 0 HP2.out;have HE:Hid (q=match setM c.N t with | .inl e => .inl (t::r,e) | .inr s => .inr (s,r)):=by
      show _=_;rw [HQ.out];unfold termG;simp only [hdT,s126,s40,List.tail_cons];rfl
     go_wp2_with fail
     refine h3.mono ?_;rintro e w3 ⟨hf3,⟨_,s,v,hes,hs,hr,rfl,hp3⟩ | ⟨rfl,x,hp3,hx⟩⟩
     · have HS:Hid (GS E s):=setM_gs HGT.out HGN.out hes;have HE2:Hid (q = .inr (s,r)):=by
        show _=_;rw [HE.out,hes]
       have HR:Hid (RngS (Im X w3 P) w3 v s):=hr;obtain ⟨va,vc,rfl⟩:=hr.slice;obtain ⟨kk,hkk,c1,f1,hp4⟩:=hp3.adv (setM_end hes);have HP4:Hid (Pa c X P (w3.setCell ⟨P,1,none⟩ (.int .i64 ((kk:Int)+1))) r st 0):=hp4;have hf4:Fr w3.heap.size P w3 (w3.setCell ⟨P,1,none⟩ (.int .i64 ((kk:Int)+1))):=fr_own w3 1 (by decide) _;have HR4:Hid (RngS (Im X (w3.setCell ⟨P,1,none⟩ (.int .i64 ((kk:Int)+1))) P) (w3.setCell ⟨P,1,none⟩ (.int .i64 ((kk:Int)+1))) (.slice va s.length vc) s):=HR.out.fr hf4;have HF4:Hid (Fr w.heap.size P w (w3.setCell ⟨P,1,none⟩ (.int .i64 ((kk:Int)+1)))):=(HF2.out.then hf3 HF2.out.size).then hf4 (HF2.out.then hf3 HF2.out.size).size
       have hPl3:=hp3.lt;clear h3 hr hes hs hf3 hf4 hp4 hp3;go_wp2;go_ret;exact ⟨_,s,r,0,rfl,HS.out,HR4.out,HP4.out,HF4.out,.inr ⟨rfl,HE2.out⟩⟩
     · have HXE:Hid ((if x=0 then 6 else x)≠0/\q = .inl (t::r,(((if x=0 then 6 else x):Nat):Int))):=by
        rcases hx with ⟨h,_⟩ | ⟨_,rfl,h⟩ | ⟨_,rfl,h⟩
        · exact absurd rfl h
        · exact ⟨by decide,by rw [HE.out,h];rfl⟩
        · exact ⟨by decide,by rw [HE.out,h];rfl⟩
       have h4:=fail_any c X P w3 st x hp3 6 (by decide);obtain ⟨y,hy⟩ :∃y,y=(if x=0 then 6 else x):=⟨_,rfl⟩;rw [<- hy] at h4 HXE;have HF3:Hid (Fr w.heap.size P w w3):=HF2.out.then hf3 HF2.out.size
       clear hf3 hp3 h3 hx hy
       go_wp2_with fail
       refine h4.mono ?_;rintro e w4 ⟨rfl,hp4,hf4⟩;clear h4;go_wp2;go_ret;exact ⟨_,[],t::r,y,rfl,GS.nil E,RngS.none,hp4,HF3.out.then hf4 HF3.out.size,.inl HXE.out⟩
 · obtain ⟨m,rfl⟩ :∃m,b=m+1:=⟨b-1,by omega⟩;have hd2:decide ((dp:Int) ≥ 20)=false:=by simp;omega
   cases s126:tkSign 126 t with
   | true =>
    have HE:Hid (q=notQ (termM c.N m r)):=by
     show _=_;rw [HQ.out];unfold termG;simp only [hdT,s126,if_true,List.tail_cons];rfl
    obtain ⟨kk,hkk,c1,f1,hp3⟩:=HP2.out.adv (sign_end s126);have hf3:Fr w2.heap.size P w2 (w2.setCell ⟨P,1,none⟩ (.int .i64 ((kk:Int)+1))):=fr_own w2 1 (by decide) _;have h4:Calls Tryz.prog 89 #[.pointer (some ⟨P,0,none⟩),.int .i64 ((dp:Int)+1)] _ λe w'=>RQA c X P E st (termM c.N m r) _ e w':=HI.out m rfl c X P _ r st (dp+1) E (by omega) hE HGR.out HGN.out hp3;have HF3:Hid (Fr w.heap.size P w (w2.setCell ⟨P,1,none⟩ (.int .i64 ((kk:Int)+1)))):=HF2.out.then hf3 HF2.out.size
    clear hf3 hp3
    go_wp2_with fail
    refine h4.mono ?_;rintro e w4 ⟨v4,s4,r4,x4,rfl,hs4,hr4,hp4,hf4,hx4⟩;have h5:=notR hE s4 v4 w4 hs4 (hr4.src (λk hk=>hk.1));obtain ⟨a4,c4,rfl⟩:=hr4.slice;have HX4:Hid ((x4≠0/\termM c.N m r = .inl (r4,((x4:Nat):Int)))\/(x4=0/\termM c.N m r = .inr (s4,r4))):=hx4;have HF4:Hid (Fr w.heap.size P w w4):=HF3.out.then hf4 HF3.out.size
    clear h4 hx4 hf4 hs4 hr4 c1 f1
    go_wp2_with fail
    refine h5.mono ?_;rintro e w5 ⟨v5,rfl,hs5,ho5,hB5⟩;have hr5:=hp4.rngS hB5 ho5;obtain ⟨a5,c5,rfl⟩:=hr5.slice;clear h5 ho5;go_wp2;go_ret;refine ⟨_,notS s4,r4,x4,rfl,hs5,hr5,hp4.below hB5,HF4.out.then (hp4.fr hB5) HF4.out.size,?_⟩;rw [HE.out];rcases HX4.out with ⟨e1,e2⟩ | ⟨e1,e2⟩
    · rw [e2];exact .inl ⟨e1,rfl⟩
    · rw [e2];exact .inr ⟨e1,rfl⟩
   | false =>
    cases s40:tkSign 40 t with
    | true =>
     have HE:Hid (q=endQ 41 (sumM c.N m r)):=by
      show _=_;rw [HQ.out];unfold termG;simp only [hdT,s126,s40,if_true,List.tail_cons];rfl
     obtain ⟨kk,hkk,c1,f1,hp3⟩:=HP2.out.adv (sign_end s40);have hf3:Fr w2.heap.size P w2 (w2.setCell ⟨P,1,none⟩ (.int .i64 ((kk:Int)+1))):=fr_own w2 1 (by decide) _;have h4:Calls Tryz.prog 49 #[.pointer (some ⟨P,0,none⟩),.int .i64 ((dp:Int)+1)] _ λe w'=>RQA c X P E st (sumM c.N m r) _ e w':=rsum_of m (HI.out m rfl) c X P _ r st (dp+1) E (by omega) hE HGR.out HGN.out hp3;have HF3:Hid (Fr w.heap.size P w (w2.setCell ⟨P,1,none⟩ (.int .i64 ((kk:Int)+1)))):=HF2.out.then hf3 HF2.out.size
     clear hf3 hp3
     go_wp2_with fail
     refine h4.mono ?_;rintro e w4 ⟨v4,s4,r4,x4,rfl,hs4,hr4,hp4,hf4,hx4⟩;obtain ⟨t4,r4,rfl⟩:=hp4.ends.cons;have h5:Calls Tryz.prog 48 #[.pointer (some ⟨P,0,none⟩),.string ⟨#[41]⟩] w4 λe w'=>e = .returned (.tuple #[])/\Pa c X P w' (rtR 41 x4 t4 r4) st (rtD 41 x4 t4)/\Fr w4.heap.size P w4 w':=rtake_any c X P w4 t4 r4 st x4 hp4 41 (by decide);have HR4:Hid (RngS (Im X w4 P) w4 v4 s4):=hr4;obtain ⟨a4,c4,rfl⟩:=hr4.slice;have HX4:Hid ((x4≠0/\sumM c.N m r = .inl (t4::r4,((x4:Nat):Int)))\/(x4=0/\sumM c.N m r = .inr (s4,t4::r4))):=hx4;have HF4:Hid (Fr w.heap.size P w w4):=HF3.out.then hf4 HF3.out.size
     clear h4 hx4 hf4 hr4 hp4 c1 f1
     go_wp2_with fail
     refine h5.mono ?_;rintro e w5 ⟨rfl,hp5,hf5⟩;clear h5;go_wp2;go_ret;refine ⟨_,s4,_,_,rfl,hs4,HR4.out.fr hf5,hp5,HF4.out.then hf5 HF4.out.size,?_⟩;rw [HE.out];unfold rtR rtD;rcases HX4.out with ⟨e1,e2⟩ | ⟨e1,e2⟩
     · rw [e2,if_neg e1,if_neg e1];exact .inl ⟨e1,rfl⟩
     · rw [e2,if_pos e1,if_pos e1];cases q41:tkSign 41 t4 with
       | true=>exact .inr ⟨rfl,by simp [endQ,hdT,q41]⟩
       | false=>exact .inl ⟨by simp,by simp [endQ,hdT,q41]⟩
    | false =>
     have h3:=rset_any c X P w2 t r st 0 HP2.out;have HE:Hid (q=match setM c.N t with | .inl e => .inl (t::r,e) | .inr s => .inr (s,r)):=by
      show _=_;rw [HQ.out];unfold termG;simp only [hdT,s126,s40,List.tail_cons];rfl
     go_wp2_with fail
     refine h3.mono ?_;rintro e w3 ⟨hf3,⟨_,s,v,hes,hs,hr,rfl,hp3⟩ | ⟨rfl,x,hp3,hx⟩⟩
     · have HS:Hid (GS E s):=setM_gs HGT.out HGN.out hes;have HE2:Hid (q = .inr (s,r)):=by
        show _=_;rw [HE.out,hes]
       have HR:Hid (RngS (Im X w3 P) w3 v s):=hr;obtain ⟨va,vc,rfl⟩:=hr.slice;obtain ⟨kk,hkk,c1,f1,hp4⟩:=hp3.adv (setM_end hes);have HP4:Hid (Pa c X P (w3.setCell ⟨P,1,none⟩ (.int .i64 ((kk:Int)+1))) r st 0):=hp4;have hf4:Fr w3.heap.size P w3 (w3.setCell ⟨P,1,none⟩ (.int .i64 ((kk:Int)+1))):=fr_own w3 1 (by decide) _;have HR4:Hid (RngS (Im X (w3.setCell ⟨P,1,none⟩ (.int .i64 ((kk:Int)+1))) P) (w3.setCell ⟨P,1,none⟩ (.int .i64 ((kk:Int)+1))) (.slice va s.length vc) s):=HR.out.fr hf4;have HF4:Hid (Fr w.heap.size P w (w3.setCell ⟨P,1,none⟩ (.int .i64 ((kk:Int)+1)))):=(HF2.out.then hf3 HF2.out.size).then hf4 (HF2.out.then hf3 HF2.out.size).size
       have hPl3:=hp3.lt;clear h3 hr hes hs hf3 hf4 hp4 hp3;go_wp2;go_ret;exact ⟨_,s,r,0,rfl,HS.out,HR4.out,HP4.out,HF4.out,.inr ⟨rfl,HE2.out⟩⟩
     · have HXE:Hid ((if x=0 then 6 else x)≠0/\q = .inl (t::r,(((if x=0 then 6 else x):Nat):Int))):=by
        rcases hx with ⟨h,_⟩ | ⟨_,rfl,h⟩ | ⟨_,rfl,h⟩
        · exact absurd rfl h
        · exact ⟨by decide,by rw [HE.out,h];rfl⟩
        · exact ⟨by decide,by rw [HE.out,h];rfl⟩
       have h4:=fail_any c X P w3 st x hp3 6 (by decide);obtain ⟨y,hy⟩ :∃y,y=(if x=0 then 6 else x):=⟨_,rfl⟩;rw [<- hy] at h4 HXE;have HF3:Hid (Fr w.heap.size P w w3):=HF2.out.then hf3 HF2.out.size
       clear hf3 hp3 h3 hx hy
       go_wp2_with fail
       refine h4.mono ?_;rintro e w4 ⟨rfl,hp4,hf4⟩;clear h4;go_wp2;go_ret;exact ⟨_,[],t::r,y,rfl,GS.nil E,RngS.none,hp4,HF3.out.then hf4 HF3.out.size,.inl HXE.out⟩
theorem rterm_any:∀b,RTermC b
 | 0=>rterm_step 0 (λm h=>by omega)
 | b+1=>rterm_step (b+1) (λm h=>by
  have e:b=m:=by omega
  exact e ▸ rterm_any b)
theorem rsum_any (b:Nat):RSumC b:=rsum_of b (rterm_any b)
theorem rterm_bad (c:Pc) (X:Nat->Prop) (P:Nat) (w:World) (ts:List Tok) (st:Sts) (d:Nat) (n:Int) (hd:d≠0) (hpa:Pa c X P w ts st d) :
 Calls Tryz.prog 89 #[.pointer (some ⟨P,0,none⟩),.int .i64 n] w λe w'=>e = .returned (.slice none 0 0)/\Pa c X P w' ts st d/\Fr w.heap.size P w w':=by
 obtain ⟨t,r,rfl⟩:=hpa.ends.cons;have HP:Hid (Pa c X P w (t::r) st d):=hpa;have h1:Calls Tryz.prog 88 #[.pointer (some ⟨P,0,none⟩),.string ⟨#[126]⟩] w λe w'=>AnsB w (decide (d=0)&&tkSign 126 t) e w':=ris_any c X P w t r st d hpa 126 (by decide);have hd0:decide (d=0)=false:=by simp [hd]
 rw [hd0,Bool.false_and] at h1;clear hpa;go_enter Tryz.func89,Tryz.ntmps89
 go_wp2_with fail
 refine h1.mono ?_;rintro e w1 ⟨rfl,hB1⟩;clear h1;have h2:Calls Tryz.prog 88 #[.pointer (some ⟨P,0,none⟩),.string ⟨#[40]⟩] w1 λe w'=>AnsB w1 (decide (d=0)&&tkSign 40 t) e w':=ris_any c X P w1 t r st d (HP.out.below hB1) 40 (by decide);rw [hd0,Bool.false_and] at h2
 go_wp2_with fail
 refine h2.mono ?_;rintro e w2 ⟨rfl,hB2⟩;clear h2;have hB:=below_after hB1 hB2;have HP2:Hid (Pa c X P w2 (t::r) st d):=HP.out.below hB;have HF2:Hid (Fr w.heap.size P w w2):=HP.out.fr hB;have h3:=rset_any c X P w2 t r st d HP2.out;have HD:Hid (d≠0):=hd;clear hB1 hB2 hB HP hd hd0
 go_wp2_with fail
 refine h3.mono ?_;rintro e w3 ⟨hf3,⟨rfl,_⟩ | ⟨rfl,x,hp3,hx⟩⟩
 · exact absurd rfl HD.out
 have HX:Hid (x=d):=by
  show _=_;rcases hx with ⟨_,h⟩ | ⟨h,_⟩ | ⟨h,_⟩
  · exact h
  · exact absurd h HD.out
  · exact absurd h HD.out
 obtain rfl:=HX.out;clear h3 hx;have h4:=fail_any c X P w3 st x hp3 6 (by decide);rw [if_neg HD.out] at h4;have HF3:Hid (Fr w.heap.size P w w3):=HF2.out.then hf3 HF2.out.size
 clear hf3
 go_wp2_with fail
 refine h4.mono ?_;rintro e w4 ⟨rfl,hp4,hf4⟩;clear h4;go_wp2;go_ret;exact ⟨rfl,hp4,HF3.out.then hf4 HF3.out.size⟩
theorem rsum_bad (c:Pc) (X:Nat->Prop) (P:Nat) (w:World) (ts:List Tok) (st:Sts) (d:Nat) (n:Int) (hd:d≠0) (hpa:Pa c X P w ts st d) :
 Calls Tryz.prog 49 #[.pointer (some ⟨P,0,none⟩),.int .i64 n] w λe w'=>e = .returned (.slice none 0 0)/\Pa c X P w' ts st d/\Fr w.heap.size P w w':=by
 have h1:=rterm_bad c X P w ts st d n hd hpa;have hd':((d:Int)==0)=false:=by simp;omega
 clear hd hpa;go_enter Tryz.func49,Tryz.ntmps49
 go_wp2_with fail
 refine h1.mono ?_;rintro e w1 ⟨rfl,hp1,hf1⟩;have hPl:=hp1.lt;obtain ⟨c5,_,_⟩:=hp1.dep;clear h1;go_wp2
 go_loopw [5] (λv wr=>wr=w1/\v = .slice none 0 0) (λ_ wr=>0)
 case atStart=>exact ⟨rfl,rfl⟩
 case round =>
  obtain ⟨rfl,rfl⟩:=hrel;go_wp2;go_ret;exact ⟨rfl,hp1,hf1⟩
end Go.Proofs.YtfdjchnckjgapaaGreatDoor
