/-
  RCatP
-/
import Derived.Test.YtfdjchnckjgapaaGreatDoorZ28
namespace Go.Proofs.YtfdjchnckjgapaaGreatDoor
set_option maxHeartbeats 16000000
set_option maxRecDepth 100000
open Go.RowKit Go.Shelf S1
set_option linter.unusedVariables false
def bgT (t:Tok):Bool:=t.k==3||t.k==1||(t.k==2&&(decide (t.t=[46])||decide (t.t=[40])))
theorem bgT_part {t:Tok} (h:bgT t=false):tkPart t=false:=by
 simp only [bgT,Bool.or_eq_false_iff,Bool.and_eq_false_iff,decide_eq_false_iff_not] at h;obtain ⟨⟨h3,h1⟩,h2⟩:=h;simp only [tkPart,tkTells,tkName,tkSign,h3,h1,Bool.false_and,Bool.or_false,Bool.false_or];rcases h2 with h2 | ⟨h2,h4⟩
 · simp [h2]
 · simp [h2,h4]
theorem bgT_kept {t:Tok} (h:tkPart t=false) (hb:bgT t=true):t.k=1/\tkSign 40 t=false/\(∀N,setM N t = .inl 6):=by
 simp only [tkPart,tkTells,Bool.or_eq_false_iff] at h;obtain ⟨⟨⟨h3,hn⟩,h46⟩,h40⟩:=h;have h3':¬t.k=3:=by simpa using h3
 refine ⟨?_,h40,λN=>setM_bad h3' h46 hn⟩;simp only [bgT,h3,Bool.false_or,Bool.or_eq_true,Bool.and_eq_true,beq_iff_eq,decide_eq_true_eq] at hb;rcases hb with hb | ⟨h2,h | h⟩
 · exact hb
 · simp [tkSign,h2,h] at h46
 · simp [tkSign,h2,h] at h40
theorem rbegins_any (c:Pc) (X:Nat->Prop) (P:Nat) (w:World) (t:Tok) (r:List Tok) (st:Sts) (d:Nat) (hpa:Pa c X P w (t::r) st d) :
 Calls Tryz.prog 126 #[.pointer (some ⟨P,0,none⟩)] w λe w'=>AnsB w (decide (d=0)&&bgT t) e w':=by
 have h1:=now_any c X P w t r st d hpa;obtain ⟨_,_,_,_,_,_,_,_,_,_,_,_,_,_,_,hby,_,_⟩:=hpa.next;have s46:((strOfNums t.t).toList==([46]:List UInt8))=decide (t.t=[46]):=strB_eq hby [46] (λy hy=>by simp at hy;omega) rfl;have s40:((strOfNums t.t).toList==([40]:List UInt8))=decide (t.t=[40]):=strB_eq hby [40] (λy hy=>by simp at hy;omega) rfl;have hPl:=hpa.lt;obtain ⟨b,hb⟩ :∃b,b=(decide (d=0)&&bgT t):=⟨_,rfl⟩;rw [<- hb];have HB:Hid (b=(decide (d=0)&&(t.k==3||t.k==1||(t.k==2&&(decide (t.t=[46])||decide (t.t=[40])))))):=hb;have HP:Hid (Pa c X P w (t::r) st d):=hpa;clear hb hpa hby;go_enter Tryz.func126,Tryz.ntmps126
 go_wp2_with fail
 refine h1.mono ?_;rintro e w1 ⟨v,rfl,hr,hB⟩;obtain ⟨va,vc,rfl⟩:=hr.slice;have c51:w1.cell? ⟨P,5,none⟩=some (.int .i64 (d:Int)):=(HP.out.below hB).dep.1;have hPl1:P<w1.heap.size:=Nat.lt_of_lt_of_le hPl hB.size;clear h1 hr;unfold tokV;by_cases h0:d=0
 · have h0':((d:Int) != 0)=false:=by simp [h0]
   rw [decide_eq_true h0] at HB;clear h0;cases h3:(t.k==3) with
   | true =>
    rw [h3] at HB;go_wp2;go_ret;exact ⟨by rw [HB.out];rfl,below_after hB (below_alloc _ _)⟩
   | false =>
    rw [h3] at HB;cases h4:(t.k==1) with
    | true =>
     rw [h4] at HB;go_wp2;go_ret;exact ⟨by rw [HB.out];rfl,below_after hB (below_alloc _ _)⟩
    | false =>
     rw [h4] at HB;cases h5:(t.k==2) with
     | false =>
      rw [h5] at HB;go_wp2;go_ret;exact ⟨by rw [HB.out];rfl,below_after hB (below_alloc _ _)⟩
     | true =>
      rw [h5] at HB;cases h6:decide (t.t=[46]) with
      | true =>
       rw [h6] at HB s46;clear h6;go_wp2;go_ret;exact ⟨by rw [HB.out];rfl,below_after hB (below_alloc _ _)⟩
      | false =>
       rw [h6] at HB s46;clear h6;cases h7:decide (t.t=[40]) with
       | true =>
        rw [h7] at HB s40;clear h7;go_wp2;go_ret;exact ⟨by rw [HB.out];rfl,below_after hB (below_alloc _ _)⟩
       | false =>
        rw [h7] at HB s40;clear h7;go_wp2;go_ret;exact ⟨by rw [HB.out];rfl,below_after hB (below_alloc _ _)⟩
 · have h0':((d:Int) != 0)=true:=by simp;omega
   rw [decide_eq_false h0] at HB;clear h0;go_wp2;go_ret;exact ⟨by rw [HB.out];rfl,below_after hB (below_alloc _ _)⟩
def okP (w:World) (P:Nat):Nat:=match w.cell? ⟨P,5,none⟩ with
 | some (.int _ d)=>if d=0 then 1 else 0
 | _=>0
theorem Pa.okp {c:Pc} {X:Nat->Prop} {P:Nat} {w:World} {ts:List Tok} {st:Sts} {d:Nat} (h:Pa c X P w ts st d):okP w P=if d=0 then 1 else 0:=by
 unfold okP;rw [h.dep.1];simp
def RNFd (g:Nat) (c:Pc) (P:Nat) (ts:List Tok) (st:Sts) (dp d:Nat) (G:Nd->List Tok->Sts->Nat->Prop):Prop:=∀(X:Nat->Prop) (w:World),Pa c X P w ts st d->Calls Tryz.prog g #[.pointer (some ⟨P,0,none⟩),.int .i64 (dp:Int)] w λe w'=>RNA c X P G w e w'
theorem ptM_sev (p:List Tok->Sts->NR Nd) (n:Nd) (r:List Tok) (st:Sts):ptM p (.inr (n,r,st))=sevF (tkSign 124) List.tail p (r.length+1) [n] r st:=by
 exact altF_sev p (r.length+1) [n] r st
theorem rcat_of (c:Pc) (P:Nat) (ts:List Tok) (st:Sts) (dp d:Nat) (q0:NR (List Nd)) (p:List Tok->Sts->NR Nd) (hq0:(d=0/\sevF tkPart id p (ts.length+1) [] ts st=q0)\/(d≠0/\q0 = .inl (ts,(d:Int)))) (hdp:dp<=20) (hpart:∀ts st,RNFn 127 c P ts st dp (REx (p ts st))) (hleft:∀ts st,NLeftS ts (p ts st)) (hkept:∀t r st,tkPart t=false->bgT t=true->t.k=1/\p (t::r) st = .inl (t::r,6)):RNFd 93 c P ts st dp d (RAg (jnM 0 q0)):=λX w hpa=>by
 obtain ⟨i0,hi0,hz0,hz1,hz2⟩:=info_parts Tryz.infoNode8;have hPl:=hpa.lt;obtain ⟨q,hq⟩ :∃q,q=jnM 0 q0:=⟨_,rfl⟩;have HQ:Hid (q=jnM 0 q0):=hq;rw [<- hq];have HIR:Hid (Im NoX (ndW w) P w.heap.size):=hpa.im_new _;have HE0:Hid ((ndW w).heap[w.heap.size]? = some (.cells #[.int .i64 0,.int .i64 0,.slice none 0 0] 39 (0,0))):=heap_new' _ _;have HF0:Hid (Fr w.heap.size P w (ndW w)):=hpa.fr (below_alloc _ _);have HSZ:Hid ((ndW w).heap.size=w.heap.size+1):=by show _=_;simp
 have HLT:Hid (ts.length<=70000):=hpa.len;have ROW:Hid (∀w2,Fr (ndW w).heap.size P (ndW w) w2->w2.heap[w.heap.size]? = some (.cells #[.int .i64 0,.int .i64 0,.slice none 0 0] 39 (0,0))/\w.heap.size<w2.heap.size):=λw2 hf2=>by
  obtain ⟨g1,g2⟩:=hf2.keep _ (by rw [HSZ.out];omega) HIR.out;exact ⟨g1.trans HE0.out,g2.1⟩
 have FIN:Hid (∀(w2:World) (n:Nd) (z:Value) (x:Nat) (r2:List Tok) (st2:Sts),SgOk n->Pa c (λk=>X k\/k=w.heap.size) P w2 r2 st2 x->Fr (ndW w).heap.size P (ndW w) w2->KdX (λk=>(ndW w).heap.size<=k/\Im (λk=>X k\/k=w.heap.size) w2 P k) w2 z n.kids->RAg q n r2 st2 x ->
  RNA c X P (RAg q) w (.returned (.agg #[.int .i64 n.k,.int .i64 n.s,z])) (set3 w2 w.heap.size (.int .i64 n.k) (.int .i64 n.s) z)):=λw2 n z x r2 st2 hsg hp2 hf2 hk hg=>by
  obtain ⟨g1,g2,g3⟩:=fin3 (lo:=(ndW w).heap.size) hp2 (hf2.keep _ (by rw [HSZ.out];omega) HIR.out).2 (HF0.out.then hf2 (by rw [HSZ.out];omega)) (Nat.le_refl _) hk (by rw [HSZ.out];omega) (.int .i64 n.k) (.int .i64 n.s) z;exact ⟨n,z,x,r2,st2,rfl,g3,hsg,g1,g2,hg⟩
 have hp0:Pa c (XV (λk=>X k\/k=w.heap.size) (.slice none 0 0)) P (ndW w) ts st d:=by
  obtain ⟨k,sv,h1,h2,h3⟩:=hpa.alloc (.cells #[.int .i64 0,.int .i64 0,.slice none 0 0] 39);exact ⟨k,sv,h1,h2.to (λj hj=>⟨rfl,hj.less (λq=>q.elim id (λq=>by simp [Value.ownBlock] at q))⟩) (λ_ _=>rfl) (λj hj=>hj.elim (h2.bound j) (λq=>by simp [Value.ownBlock] at q)),h3⟩
 have HCALL:Hid (∀ts st,RNFn 127 c P ts st dp (REx (p ts st))):=hpart;have HLEFT:Hid (∀ts st,NLeftS ts (p ts st)):=hleft;have HKEPT:Hid (∀t r st,tkPart t=false->bgT t=true->t.k=1/\p (t::r) st = .inl (t::r,6)):=hkept;have HG0:Hid ((d=0/\sevF tkPart id p (ts.length+1) ([]) ts st=q0)\/(d≠0/\q0 = .inl (ts,((d:Nat):Int)))\/(d=6/\(hdT ts).k=1/\∃a b,q0 = .inr (a,ts,b))):=by
  rcases hq0 with h | h
  · exact .inl h
  · exact .inr (.inl h)
 have hdpi:(dp:Int)<=20:=by omega
 clear hq hpa hpart hleft hkept hq0 HIR HE0 HF0;go_enter Tryz.func93,Tryz.ntmps93;go_wp2
 go_loopw [5] (λv wr=>∃(f:Nat) (l:List (Nd×Value)) (r:List Tok) (st1:Sts) (x:Nat),r.length<f/\l.length+r.length<=ts.length+2/\(x=0->l.length+r.length<=ts.length+1)/\Hid ((x=0/\sevF tkPart id p f (l.map Prod.fst) r st1=q0)\/(x≠0/\q0 = .inl (r,((x:Nat):Int)))\/(x=6/\(hdT r).k=1/\∃a b,q0 = .inr (a,r,b)))/\wr.ownsRow (ndW w).heap.size 39 3 v l.length (cellsNs l)/\Hid (∀g,v.ownBlock=some g->Im NoX wr P g/\¬(λk=>X k\/k=w.heap.size) g)/\Hid (KidsX (λk=>(ndW w).heap.size<=k/\Im (XV (λk=>X k\/k=w.heap.size) v) wr P k) wr l)/\Hid (∀y∈l,SgOk y.1)/\Pa c (XV (λk=>X k\/k=w.heap.size) v) P wr r st1 x/\Fr (ndW w).heap.size P (ndW w) wr) (λ_ wr=>leftP c.n wr P+okP wr P)
 case atStart=>exact ⟨ts.length+1,[],ts,st,d,by omega,by simp,λ_=>by simp,HG0,World.ownsRow_nil _ _ _ _,(λg q=>by simp [Value.ownBlock] at q),(λx hx=>(by cases hx)),(λy hy=>(by cases hy)),hp0,Fr.refl _ _ _⟩
 case round =>
  obtain ⟨f,l,r,st1,x,hrf,hlr,hlr0,HEQ,hown,HVI,HKX,HSGL,hp,hfr⟩:=hrel;obtain ⟨f,rfl⟩ :∃k,f=k+1:=⟨f-1,by omega⟩;obtain ⟨t,r,rfl⟩:=hp.ends.cons;have hl0:=hp.left;have ho0:=hp.okp;have h1:Calls Tryz.prog 126 #[.pointer (some ⟨P,0,none⟩)] wr λe w'=>AnsB wr (decide (x=0)&&bgT t) e w':=rbegins_any c _ P wr t r st1 x hp;have HOW:Hid (wr.ownsRow (ndW w).heap.size 39 3 u5 l.length (cellsNs l)):=hown;have HFR:Hid (Fr (ndW w).heap.size P (ndW w) wr):=hfr;have HPR:Hid (Pa c (XV (λk=>X k\/k=w.heap.size) u5) P wr (t::r) st1 x):=hp;have hPlr:=hp.lt;have HLR:Hid (l.length+(t::r).length<=ts.length+2/\(x=0->l.length+(t::r).length<=ts.length+1)/\(t::r).length<f+1):=⟨hlr,hlr0,hrf⟩;clear hown hfr hp hlr hlr0 hrf;cases hm:(decide (x=0)&&bgT t) with
  | false =>
   rw [hm] at h1;have HRAg:Hid (RAg q (joinN 0 (l.map Prod.fst)) (t::r) st1 x):=by
    show RAg _ _ _ _ _;rw [HQ.out];rcases HEQ.out with ⟨e1,e2⟩ | ⟨e1,e2⟩ | ⟨e1,e2,a,b,e3⟩
    · have hmt:tkPart t=false:=by rw [e1] at hm;exact bgT_part (by simpa using hm)
      rw [<- e2,sevF_end (show tkPart (hdT (t::r))=false from hmt)];exact .inr (.inl ⟨e1,rfl⟩)
    · rw [e2];exact .inl ⟨e1,rfl⟩
    · rw [e3];exact .inr (.inr ⟨e1,e2,_,_,rfl⟩)
   clear hm
   go_wp2_with fail
   refine h1.mono ?_;rintro e w1 ⟨rfl,hB1⟩;clear h1;have hf1:=HPR.out.fr hB1;have HP1:Hid (Pa c (XV (λk=>X k\/k=w.heap.size) u5) P w1 (t::r) st1 x):=HPR.out.below hB1;have HF1:Hid (Fr (ndW w).heap.size P (ndW w) w1):=HFR.out.then hf1 HFR.out.size
   have HOW1:Hid (w1.ownsRow (ndW w).heap.size 39 3 u5 l.length (cellsNs l)):=own_block HOW.out (λk hk=>(hf1.keep k (HVI.out k hk).1.1 (HVI.out k hk).1).1);have HVI1:Hid (∀g,u5.ownBlock=some g->Im NoX w1 P g/\¬(λk=>X k\/k=w.heap.size) g):=λg hg=>⟨(hf1.keep g (HVI.out g hg).1.1 (HVI.out g hg).1).2,(HVI.out g hg).2⟩;have HKX1:Hid (KidsX (λk=>(ndW w).heap.size<=k/\Im (XV (λk=>X k\/k=w.heap.size) u5) w1 P k) w1 l):=HKX.out.to (λk hk=>⟨(hf1.all k hk.2).1,hk.1,(hf1.all k hk.2).2⟩);have hlB:l.length<=80000:=by have:=HLR.out.1;have:=HLT.out;omega
   clear hf1 hB1 HOW HVI HKX HPR HFR HEQ;have hkd:KdX (λk=>(ndW w).heap.size<=k/\Im (λk=>X k\/k=w.heap.size) w1 P k) w1 u5 (l.map Prod.fst):=kids_of_row HOW1.out (HKX1.out.to (λk hk=>⟨rfl,hk.1,hk.2.less (λq => .inl q)⟩)) (λg hg=>⟨(HOW1.out.lt g hg).1,(HVI1.out g hg).1.with (HVI1.out g hg).2⟩);obtain ⟨hRR,hRl⟩:=ROW.out w1 HF1.out;have HRR:Hid (w1.heap[w.heap.size]? = some (.cells #[.int .i64 0,.int .i64 0,.slice none 0 0] 39 (0,0))):=hRR;have d0:w1.cell? ⟨w.heap.size,0,none⟩=some (.int .i64 0):=cell_of_row _ _ 0 _ _ _ hRR;have df0:w1.frozen? ⟨w.heap.size,0,none⟩=false:=frozen_of_row _ _ 0 _ _ hRR;have d1:w1.cell? ⟨w.heap.size,1,none⟩=some (.int .i64 0):=cell_of_row _ _ 1 _ _ _ hRR;have df1:w1.frozen? ⟨w.heap.size,1,none⟩=false:=frozen_of_row _ _ 1 _ _ hRR;have d2:w1.cell? ⟨w.heap.size,2,none⟩=some (.slice none 0 0):=cell_of_row _ _ 2 _ _ _ hRR;have df2:w1.frozen? ⟨w.heap.size,2,none⟩=false:=frozen_of_row _ _ 2 _ _ hRR;clear hRR;have HPX:Hid (Pa c (λk=>X k\/k=w.heap.size) P w1 (t::r) st1 x):=HP1.out.less (λk hk => .inl hk);by_cases hl1:l.length=1
   · obtain ⟨y,hy⟩:=List.length_eq_one_iff.1 hl1;subst hy;obtain ⟨g,off,cap,z,e1,e2,e3,e4,e5,e6,e7⟩:=hkd.at 0 (by simp);simp only [List.map_cons,List.map_nil,List.getElem_cons_zero,Nat.zero_mul,Nat.add_zero,List.length_cons,List.length_nil,Nat.zero_add] at e1 e2 e4 e5 e6 e7;obtain ⟨ya,yc,rfl,_⟩:=e7.slice;subst e1;have hgl:=e3.2.1;have HFN:Hid _:=FIN.out w1 y.1 (.slice ya y.1.kids.length yc) x (t::r) st1 (HSGL.out y (by simp)) HPX.out HF1.out e7 HRAg.out;clear hkd e7 e3 HOW1 HKX1 HVI1 HP1 HF1 hl1;go_wp2;refine bodyPost_ret (results_row_one rfl _ _ w.heap.size 39 #[.int .i64 y.1.k,.int .i64 y.1.s,.slice ya y.1.kids.length yc] (0,0) _ rfl ?_ Tryz.underlying39 rfl (by kernel_rfl)) rfl ?_
     · exact set3_row HRR.out _ _ _
     exact HFN.out
   · have hl1':((l.length:Int)==1)=false:=by simp;omega
     obtain ⟨va,vc,hv,_⟩:=hkd.slice;rw [List.length_map] at hv;subst hv;have HJ:Hid (joinN 0 (l.map Prod.fst)=⟨0,0,l.map Prod.fst⟩):=by
      show _=_
      match l,hl1 with
      | [],_=>rfl
      | [y],h=>exact absurd rfl h
      | y::y2::m,_=>rfl
     have HFN:Hid _:=FIN.out w1 (joinN 0 (l.map Prod.fst)) (.slice va l.length vc) x (t::r) st1 (joinN_ok rfl (λy hy=>by obtain ⟨u,hu,rfl⟩:=List.mem_map.1 hy;exact HSGL.out u hu)) HPX.out HF1.out (by rw [HJ.out];exact hkd) HRAg.out;rw [HJ.out] at HFN;clear hkd HOW1 HKX1 HVI1 HP1 HF1 hl1;go_wp2;refine bodyPost_ret (results_row_one rfl _ _ w.heap.size 39 #[.int .i64 0,.int .i64 0,.slice va l.length vc] (0,0) _ rfl ?_ Tryz.underlying39 rfl (by kernel_rfl)) rfl ?_
     · exact set3_row HRR.out _ _ _
     exact HFN.out
  | true =>
   rw [hm] at h1;obtain rfl:x=0:=by simp at hm;exact hm.1
   have HMB:Hid (bgT t=true):=by
    show _=_;simpa using hm
   have HEQ0:Hid (sevF tkPart id p (f+1) (l.map Prod.fst) (t::r) st1=q0):=by
    show _=_;rcases HEQ.out with ⟨_,e⟩ | ⟨e,_⟩ | ⟨e,_⟩
    · exact e
    · exact absurd rfl e
    · cases e
   clear hm HEQ
   go_wp2_with fail
   refine h1.mono ?_;rintro e w1 ⟨rfl,hB1⟩;clear h1;have h2:=HCALL.out (t::r) st1 _ w1 (HPR.out.below hB1);have HF1:Hid (Fr wr.heap.size P wr w1):=HPR.out.fr hB1;clear hB1
   go_wp2_with fail
   refine h2.mono ?_;rintro e w2 ⟨n,z,x2,r2,st2,rfl,hz,hsg,hp2,hf2,hg2⟩;obtain ⟨za,zc,rfl,_⟩:=hz.slice;unfold ndV;have hf12:=HF1.out.then hf2 HF1.out.size
   have HF02:Hid (Fr (ndW w).heap.size P (ndW w) w2):=HFR.out.then hf12 HFR.out.size
   have hszw2:(ndW w).heap.size<=w2.heap.size:=HF02.out.size;obtain ⟨f2,HMATH⟩ :∃f2,Hid (l.length+1+r2.length<=ts.length+2/\r2.length<f2/\(x2=0->l.length+1+r2.length<=ts.length+1)/\Hid ((x2=0/\sevF tkPart id p f2 ((l++[(n,Value.slice za n.kids.length zc)]).map Prod.fst) r2 st2=q0)\/(x2≠0/\q0 = .inl (r2,((x2:Nat):Int)))\/(x2=6/\(hdT r2).k=1/\∃a b,q0 = .inr (a,r2,b)))/\r2.length+(if x2=0 then 1 else 0)<(t::r).length+(if (0:Nat)=0 then 1 else 0)):=by
    have hL:=HLEFT.out (t::r) st1;have hlr:=HLR.out.2.1 (by simp);have hlf:=HLR.out.2.2;simp at hlr hlf;rcases hg2 with ⟨e1,e2⟩ | ⟨e1,e2⟩
    · rw [e2] at hL;have h1:=hL.1;simp at h1;refine ⟨f+1,by omega,by omega,λh=>absurd h e1,?_,by simp [e1];omega⟩;cases hpt:tkPart t with
      | true=>exact .inr (.inl ⟨e1,by rw [<- HEQ0.out];exact sevF_bad (show tkPart (hdT (t::r))=true from hpt) e2⟩)
      | false =>
       obtain ⟨k1,k2⟩:=HKEPT.out t r st1 hpt HMB.out;rw [k2] at e2;obtain ⟨rfl,e6⟩:t::r=r2/\(6:Int)=((x2:Nat):Int):=by simpa using e2
       exact .inr (.inr ⟨by omega,k1,_,_,by rw [<- HEQ0.out];exact sevF_end (show tkPart (hdT (t::r))=false from hpt)⟩)
    · rw [e2] at hL;have h1:=hL.1;simp at h1;refine ⟨f,by omega,by omega,λ_=>by omega,?_,by simp [e1];omega⟩;cases hpt:tkPart t with
      | true=>exact .inl ⟨e1,by rw [<- HEQ0.out,sevF_on (show tkPart (hdT (t::r))=true from hpt) (show p (id (t::r)) st1=_ from e2)];simp⟩
      | false =>
       obtain ⟨k1,k2⟩:=HKEPT.out t r st1 hpt HMB.out;rw [k2] at e2;cases e2
   have hB3:=below_alloc w2 (.cells #[.int .i64 n.k,.int .i64 n.s,.slice za n.kids.length zc] 39);have hsz4:(w2.alloc (.cells #[.int .i64 n.k,.int .i64 n.s,.slice za n.kids.length zc] 39)).heap.size=w2.heap.size+1:=by simp
   have hp4:=hp2.below hB3;have hfr4:=hp2.fr hB3;have HVI4:Hid (∀g,Value.ownBlock u5=some g->Im NoX (w2.alloc (.cells #[.int .i64 n.k,.int .i64 n.s,.slice za n.kids.length zc] 39)) P g/\¬(λk=>X k\/k=w.heap.size) g):=λg hg=>by
    obtain ⟨q1,q2⟩:=HVI.out g hg;exact ⟨(hfr4.keep g (hf12.keep g q1.1 q1).2.1 (hf12.keep g q1.1 q1).2).2,q2⟩
   have HOW4:Hid ((w2.alloc (.cells #[.int .i64 n.k,.int .i64 n.s,.slice za n.kids.length zc] 39)).ownsRow (ndW w).heap.size 39 3 u5 l.length (cellsNs l)):=own_block HOW.out (λk hk=>by
    obtain ⟨q1,q2⟩:=HVI.out k hk;obtain ⟨g1,g2⟩:=hf12.keep k q1.1 q1;exact ((hfr4.keep k g2.1 g2).1).trans g1)
   have HN4:Hid ((w2.alloc (.cells #[.int .i64 n.k,.int .i64 n.s,.slice za n.kids.length zc] 39)).heap[w2.heap.size]? = some (.cells #[.int .i64 n.k,.int .i64 n.s,.slice za n.kids.length zc] 39 (0,0))):=heap_new' _ _;have HP4:Hid (Pa c (XV (λk=>X k\/k=w.heap.size) u5) P (w2.alloc (.cells #[.int .i64 n.k,.int .i64 n.s,.slice za n.kids.length zc] 39)) r2 st2 x2):=hp4;have HF4:Hid (Fr (ndW w).heap.size P (ndW w) (w2.alloc (.cells #[.int .i64 n.k,.int .i64 n.s,.slice za n.kids.length zc] 39))):=HF02.out.then hfr4 hszw2
   have HKX4:Hid (KidsX (λk=>(ndW w).heap.size<=k/\Im (XV (λk=>X k\/k=w.heap.size) u5) (w2.alloc (.cells #[.int .i64 n.k,.int .i64 n.s,.slice za n.kids.length zc] 39)) P k) (w2.alloc (.cells #[.int .i64 n.k,.int .i64 n.s,.slice za n.kids.length zc] 39)) (l++[(n,Value.slice za n.kids.length zc)])):=λy hy=>by
    rcases List.mem_append.1 hy with hy | hy
    · exact (HKX.out y hy).to (λk hk=>by
       obtain ⟨g1,g2⟩:=hf12.all k hk.2;obtain ⟨g3,g4⟩:=hfr4.all k g2;exact ⟨g3.trans g1,hk.1,g4⟩)
    · obtain rfl:y=(n,Value.slice za n.kids.length zc):=by simpa using hy
      exact hz.to (λk hk=>by
       obtain ⟨g3,g4⟩:=hfr4.all k hk.2;exact ⟨g3,by have:=hk.1;have:=HF1.out.size;have:=HFR.out.size;omega,g4⟩)
   have HSZ4:Hid ((w2.alloc (.cells #[.int .i64 n.k,.int .i64 n.s,.slice za n.kids.length zc] 39)).heap.size=w2.heap.size+1):=hsz4;have HSGL6:Hid (∀y∈l++[(n,Value.slice za n.kids.length zc)],SgOk y.1):=λy hy=>by
    rcases List.mem_append.1 hy with hy | hy
    · exact HSGL.out y hy
    · obtain rfl:y=(n,Value.slice za n.kids.length zc):=by simpa using hy
      exact hsg
   have hlB:l.length+1<=80000:=by
    have h8:=HLR.out.1;have h9:=HLT.out;simp at h8;omega
   clear h2 hz hp2 hf2 hf12 hB3 hp4 hfr4 hsz4 hsg hg2 HOW HVI HKX HF02 HSGL
   go_wp2_with (at_builtin;go_must (refine wpList_append_lies _ rfl (.tmp 8) (.tmp 12) 37 rfl (ndW w).heap.size 39 i0 (.agg #[.int .i64 0,.int .i64 0,.slice none 0 0]) 3 40 Tryz.underlying37 hi0 hz0 hz1 hz2 rfl (by decide) _ _ _ rfl HOW4.out ⟨w2.heap.size,0,none⟩ 1 1 (cellsN (n,.slice za n.kids.length zc)) rfl rfl (World.news_of_block HN4.out) (by simp [cellsN,Value.oneCell']) (by omega) (by unfold maxLen;omega) (by omega) (by rw [HSZ4.out];omega) _ rfl ?_);intro g2 cap2 w5 hown5 hgrow5 hat5 hlt5;refine Hid.out ?_)
   refine Lib.hid ?_;have hown6:w5.ownsRow (ndW w).heap.size 39 3 (.slice (some ⟨g2,0,none⟩) (l.length+1) cap2) (l++[(n,Value.slice za n.kids.length zc)]).length (cellsNs (l++[(n,.slice za n.kids.length zc)])):=by rw [cellsNs_snoc];simpa using hown5
   have hn6:∀g,(Value.slice (some ⟨g2,0,none⟩) (l.length+1) cap2).ownBlock=some g->Value.ownBlock u5=some g\/(w2.alloc (.cells #[.int .i64 n.k,.int .i64 n.s,.slice za n.kids.length zc] 39)).heap.size<=g:=λg hg=>by
    obtain rfl:g2=g:=by simpa [Value.ownBlock] using hg
    rcases hat5 with q | q
    · exact .inl q
    · exact .inr (by rw [q];exact Nat.le_refl _)
   have hp6:=HP4.out.regrow (v':=(.slice (some ⟨g2,0,none⟩) (l.length+1) cap2)) (λg hg=>(HVI4.out g hg).1) hgrow5 hn6 (λg hg=>(show g2=g by simpa [Value.ownBlock] using hg) ▸ hlt5);obtain ⟨rg1,rg2,rg3⟩:=regrow (X:=(λk=>X k\/k=w.heap.size)) (v':=(.slice (some ⟨g2,0,none⟩) (l.length+1) cap2)) (λg hg=>(HVI4.out g hg).1) HP4.out.lt hgrow5 hn6;have hkx6:=HKX4.out.to (Q':=λk=>(ndW w).heap.size<=k/\Im (XV (λk=>X k\/k=w.heap.size) (.slice (some ⟨g2,0,none⟩) (l.length+1) cap2)) w5 P k) (λk hk=>⟨(rg1 k hk.2).1,hk.1,(rg1 k hk.2).2⟩);have hvi6:∀g,(Value.slice (some ⟨g2,0,none⟩) (l.length+1) cap2).ownBlock=some g->Im NoX w5 P g/\¬(λk=>X k\/k=w.heap.size) g:=λg hg=>by
    obtain rfl:g2=g:=by simpa [Value.ownBlock] using hg
    rcases hat5 with q | q
    · exact ⟨(HVI4.out g2 q).1.same hgrow5.size rg3,(HVI4.out g2 q).2⟩
    · have hPl4:=HP4.out.lt;refine ⟨⟨hlt5,by omega,λx hx => ?_,id⟩,λhX => ?_⟩
      · rw [rg3] at hx;obtain ⟨k,sv,e1,e2,_⟩:=HP4.out;rw [row_cell e1] at hx;obtain rfl:sv=x:=by simpa [Pc.row] using hx
        intro q2;have:=(e2.row_lt _ q2).2;omega
      · obtain ⟨k,sv,e1,e2,_⟩:=HP4.out;have:=e2.bound g2 (.inl hX);omega
   have hfr6:Fr (ndW w).heap.size P (ndW w) w5:=⟨hgrow5.os.trans HF4.out.os,hgrow5.tape.trans HF4.out.tape,hgrow5.output.trans HF4.out.output,Nat.le_trans HF4.out.size hgrow5.size,λk hk hm=>by
    obtain ⟨e1,e2⟩:=HF4.out.keep k hk hm;have hne:Value.ownBlock u5≠some k:=λq=>by have:=(HOW4.out.lt k q).1;omega
    exact ⟨(hgrow5.block k e2.1 (Ne.symm hne)).trans e1,e2.same hgrow5.size rg3⟩⟩
   have HOW6:Hid (w5.ownsRow (ndW w).heap.size 39 3 (.slice (some ⟨g2,0,none⟩) (l.length+1) cap2) (l++[(n,Value.slice za n.kids.length zc)]).length (cellsNs (l++[(n,.slice za n.kids.length zc)]))):=hown6;have HKX6:Hid (KidsX (λk=>(ndW w).heap.size<=k/\Im (XV (λk=>X k\/k=w.heap.size) (.slice (some ⟨g2,0,none⟩) (l.length+1) cap2)) w5 P k) w5 (l++[(n,Value.slice za n.kids.length zc)])):=hkx6;have HVI6:Hid (∀g,(Value.slice (some ⟨g2,0,none⟩) (l.length+1) cap2).ownBlock=some g->Im NoX w5 P g/\¬(λk=>X k\/k=w.heap.size) g):=hvi6;clear hown5 hgrow5 hat5 hlt5 hown6 hn6 rg1 rg2 rg3 hkx6 hvi6 HKX4 HVI4 HOW4 HN4 HF4 HP4 HSZ4;go_wp2
   go_roundw
   case rel=>exact ⟨f2,l++[(n,.slice za n.kids.length zc)],r2,st2,x2,HMATH.out.2.1,by have:=HMATH.out.1;simp;omega,λh=>by have:=HMATH.out.2.2.1 h;simp;omega,HMATH.out.2.2.2.1,HOW6.out,HVI6,HKX6,HSGL6,hp6,hfr6⟩
   case measure =>
    have ho6:=hp6.okp;rw [hp6.left,hl0,ho6,ho0];exact HMATH.out.2.2.2.2
theorem rregex_of (c:Pc) (P:Nat) (ts:List Tok) (st:Sts) (dp d:Nat) (q0:NR (List Nd)) (q1:NR Nd) (p:List Tok->Sts->NR Nd) (hq0:q0=ptM p q1) (hdp:dp<=20) (hfirst:RNFd 93 c P ts st dp d (RAg q1)) (hl1:NLeft ts q1) (hcat:∀ts st,RNFd 93 c P ts st dp 0 (RAg (p ts st))) (hleft:∀ts st,NLeft ts (p ts st)):RNFd 50 c P ts st dp d (RAg (jnM 2 q0)):=λX w hpa=>by
 obtain ⟨i0,hi0,hz0,hz1,hz2⟩:=info_parts Tryz.infoNode8;have hPl:=hpa.lt;obtain ⟨q,hq⟩ :∃q,q=jnM 2 q0:=⟨_,rfl⟩;have HQ:Hid (q=jnM 2 q0):=hq;rw [<- hq];have HIR:Hid (Im NoX (ndW w) P w.heap.size):=hpa.im_new _;have HE0:Hid ((ndW w).heap[w.heap.size]? = some (.cells #[.int .i64 0,.int .i64 0,.slice none 0 0] 39 (0,0))):=heap_new' _ _;have HF0:Hid (Fr w.heap.size P w (ndW w)):=hpa.fr (below_alloc _ _);have HSZ:Hid ((ndW w).heap.size=w.heap.size+1):=by show _=_;simp
 have HLT:Hid (ts.length<=70000):=hpa.len;have ROW:Hid (∀w2,Fr (ndW w).heap.size P (ndW w) w2->w2.heap[w.heap.size]? = some (.cells #[.int .i64 0,.int .i64 0,.slice none 0 0] 39 (0,0))/\w.heap.size<w2.heap.size):=λw2 hf2=>by
  obtain ⟨g1,g2⟩:=hf2.keep _ (by rw [HSZ.out];omega) HIR.out;exact ⟨g1.trans HE0.out,g2.1⟩
 have FIN:Hid (∀(w2:World) (n:Nd) (z:Value) (x:Nat) (r2:List Tok) (st2:Sts),SgOk n->Pa c (λk=>X k\/k=w.heap.size) P w2 r2 st2 x->Fr (ndW w).heap.size P (ndW w) w2->KdX (λk=>(ndW w).heap.size<=k/\Im (λk=>X k\/k=w.heap.size) w2 P k) w2 z n.kids->RAg q n r2 st2 x ->
  RNA c X P (RAg q) w (.returned (.agg #[.int .i64 n.k,.int .i64 n.s,z])) (set3 w2 w.heap.size (.int .i64 n.k) (.int .i64 n.s) z)):=λw2 n z x r2 st2 hsg hp2 hf2 hk hg=>by
  obtain ⟨g1,g2,g3⟩:=fin3 (lo:=(ndW w).heap.size) hp2 (hf2.keep _ (by rw [HSZ.out];omega) HIR.out).2 (HF0.out.then hf2 (by rw [HSZ.out];omega)) (Nat.le_refl _) hk (by rw [HSZ.out];omega) (.int .i64 n.k) (.int .i64 n.s) z;exact ⟨n,z,x,r2,st2,rfl,g3,hsg,g1,g2,hg⟩
 have h0:=hfirst _ _ (hpa.alloc (.cells #[.int .i64 0,.int .i64 0,.slice none 0 0] 39));have HCALL:Hid (∀ts st,RNFd 93 c P ts st dp 0 (RAg (p ts st))):=hcat;have HLEFT:Hid (∀ts st,NLeft ts (p ts st)):=hleft;have HL1:Hid (NLeft ts q1):=hl1;have HQ0:Hid (q0=ptM p q1):=hq0;have hdpi:(dp:Int)<=20:=by omega
 clear hq hpa hcat hleft hfirst hl1 hq0 HIR HE0 HF0;go_enter Tryz.func50,Tryz.ntmps50
 go_wp2_with fail
 refine h0.mono ?_;rintro e w2 ⟨n,z,x2,r2,st2,rfl,hz,hsg,hp2,hf2,hg2⟩;clear h0;obtain ⟨za,zc,rfl,_⟩:=hz.slice;unfold ndV;have hB3:=below_alloc w2 (.cells #[.int .i64 n.k,.int .i64 n.s,.slice za n.kids.length zc] 39);have hN4:=heap_new' w2 (.cells #[.int .i64 n.k,.int .i64 n.s,.slice za n.kids.length zc] 39);have hI4:=hp2.im_new (.cells #[.int .i64 n.k,.int .i64 n.s,.slice za n.kids.length zc] 39);have hPA:=hp2.alloc (.cells #[.int .i64 n.k,.int .i64 n.s,.slice za n.kids.length zc] 39);have hfr4:=hp2.fr hB3;have hown4:(w2.alloc (.cells #[.int .i64 n.k,.int .i64 n.s,.slice za n.kids.length zc] 39)).ownsRow (ndW w).heap.size 39 3 (.slice (some ⟨w2.heap.size,0,none⟩) 1 1) [(n,Value.slice za n.kids.length zc)].length (cellsNs [(n,Value.slice za n.kids.length zc)]):=⟨rfl,.inr ⟨w2.heap.size,1,_,rfl,hf2.size,hN4,Nat.le_refl _,by unfold maxLen;omega,rfl,rfl⟩⟩;have hvi4:∀g,(Value.slice (some ⟨w2.heap.size,0,none⟩) 1 1).ownBlock=some g->Im NoX (w2.alloc (.cells #[.int .i64 n.k,.int .i64 n.s,.slice za n.kids.length zc] 39)) P g/\¬(λk=>X k\/k=w.heap.size) g:=λg hg=>by
  obtain rfl:w2.heap.size=g:=by simpa [Value.ownBlock] using hg
  refine ⟨hI4,λhX => ?_⟩;obtain ⟨k,sv,e1,e2,_⟩:=hp2;have:=e2.bound _ hX;omega
 have hxv:∀k,XV (λk=>X k\/k=w.heap.size) (.slice (some ⟨w2.heap.size,0,none⟩) 1 1) k->(λk=>X k\/k=w.heap.size) k\/k=w2.heap.size:=λk hk=>by
  rcases hk with q | q
  · exact .inl q
  · have h9:w2.heap.size=k:=by simpa [Value.ownBlock] using q
    exact .inr h9.symm
 have hp4:Pa c (XV (λk=>X k\/k=w.heap.size) (.slice (some ⟨w2.heap.size,0,none⟩) 1 1)) P (w2.alloc (.cells #[.int .i64 n.k,.int .i64 n.s,.slice za n.kids.length zc] 39)) r2 st2 x2:=hPA.less hxv;have hkx4:KidsX (λk=>(ndW w).heap.size<=k/\Im (XV (λk=>X k\/k=w.heap.size) (.slice (some ⟨w2.heap.size,0,none⟩) 1 1)) (w2.alloc (.cells #[.int .i64 n.k,.int .i64 n.s,.slice za n.kids.length zc] 39)) P k) (w2.alloc (.cells #[.int .i64 n.k,.int .i64 n.s,.slice za n.kids.length zc] 39)) [(n,Value.slice za n.kids.length zc)]:=λy hy=>by
  obtain rfl:y=(n,Value.slice za n.kids.length zc):=by simpa using hy
  exact hz.to (λk hk=>by
   obtain ⟨g3,g4⟩:=hfr4.all k hk.2;refine ⟨g3,hk.1,g4.no.with (λq => ?_)⟩;rcases hxv k q with q | q
   · exact hk.2.2.2.2 q
   · have:=hk.2.1;omega)
 have hF4:Fr (ndW w).heap.size P (ndW w) (w2.alloc (.cells #[.int .i64 n.k,.int .i64 n.s,.slice za n.kids.length zc] 39)):=hf2.then hfr4 hf2.size
 have hsgl:∀y∈[(n,Value.slice za n.kids.length zc)],SgOk y.1:=λy hy=>by
  obtain rfl:y=(n,Value.slice za n.kids.length zc):=by simpa using hy
  exact hsg
 have hlen2:r2.length<=ts.length/\((x2=0/\sevF (tkSign 124) List.tail p (r2.length+1) (([(n,Value.slice za n.kids.length zc)]).map Prod.fst) r2 st2=q0)\/(x2≠0/\q0 = .inl (r2,((x2:Nat):Int)))\/(x2=6/\(hdT r2).k=1/\∃a b,q0 = .inr (a,r2,b))):=by
  have hL:=HL1.out;rcases hg2 with ⟨e1,e2⟩ | ⟨e1,e2⟩ | ⟨e1,e2,a,b,e3⟩
  · rw [e2] at hL;exact ⟨hL.1,.inr (.inl ⟨e1,by rw [HQ0.out,e2];rfl⟩)⟩
  · rw [e2] at hL;exact ⟨hL.1,.inl ⟨e1,by rw [HQ0.out,e2];exact (ptM_sev p n r2 st2).symm⟩⟩
  · rw [e3] at hL;refine ⟨hL.1,.inr (.inr ⟨e1,e2,[a],b,?_⟩)⟩;rw [HQ0.out,e3,ptM_sev,sevF_end];simp [tkSign,e2]
 have HS0:Hid (r2.length<=ts.length/\((x2=0/\sevF (tkSign 124) List.tail p (r2.length+1) (([(n,Value.slice za n.kids.length zc)]).map Prod.fst) r2 st2=q0)\/(x2≠0/\q0 = .inl (r2,((x2:Nat):Int)))\/(x2=6/\(hdT r2).k=1/\∃a b,q0 = .inr (a,r2,b)))):=hlen2;clear hz hsg hp2 hf2 hg2 hB3 hN4 hI4 hPA hfr4 hxv hlen2;go_wp2
 go_loopw [5] (λv wr=>∃(f:Nat) (l:List (Nd×Value)) (r:List Tok) (st1:Sts) (x:Nat),r.length<f/\l.length+r.length<=ts.length+2/\(x=0->l.length+r.length<=ts.length+1)/\Hid ((x=0/\sevF (tkSign 124) List.tail p f (l.map Prod.fst) r st1=q0)\/(x≠0/\q0 = .inl (r,((x:Nat):Int)))\/(x=6/\(hdT r).k=1/\∃a b,q0 = .inr (a,r,b)))/\wr.ownsRow (ndW w).heap.size 39 3 v l.length (cellsNs l)/\Hid (∀g,v.ownBlock=some g->Im NoX wr P g/\¬(λk=>X k\/k=w.heap.size) g)/\Hid (KidsX (λk=>(ndW w).heap.size<=k/\Im (XV (λk=>X k\/k=w.heap.size) v) wr P k) wr l)/\Hid (∀y∈l,SgOk y.1)/\Pa c (XV (λk=>X k\/k=w.heap.size) v) P wr r st1 x/\Fr (ndW w).heap.size P (ndW w) wr) (λ_ wr=>leftP c.n wr P+okP wr P)
 case atStart=>exact ⟨r2.length+1,[(n,Value.slice za n.kids.length zc)],r2,st2,x2,by omega,by have:=HS0.out.1;simp;omega,λ_=>by have:=HS0.out.1;simp;omega,HS0.out.2,hown4,hvi4,hkx4,hsgl,hp4,hF4⟩
 case round =>
  obtain ⟨f,l,r,st1,x,hrf,hlr,hlr0,HEQ,hown,HVI,HKX,HSGL,hp,hfr⟩:=hrel;obtain ⟨f,rfl⟩ :∃k,f=k+1:=⟨f-1,by omega⟩;obtain ⟨t,r,rfl⟩:=hp.ends.cons;have hl0:=hp.left;have ho0:=hp.okp;have h1:Calls Tryz.prog 88 #[.pointer (some ⟨P,0,none⟩),.string ⟨#[124]⟩] wr λe w'=>AnsB wr (decide (x=0)&&tkSign 124 t) e w':=ris_any c _ P wr t r st1 x hp 124 (by decide);have HOW:Hid (wr.ownsRow (ndW w).heap.size 39 3 u5 l.length (cellsNs l)):=hown;have HFR:Hid (Fr (ndW w).heap.size P (ndW w) wr):=hfr;have HPR:Hid (Pa c (XV (λk=>X k\/k=w.heap.size) u5) P wr (t::r) st1 x):=hp;have hPlr:=hp.lt;have HLR:Hid (l.length+(t::r).length<=ts.length+2/\(x=0->l.length+(t::r).length<=ts.length+1)/\(t::r).length<f+1):=⟨hlr,hlr0,hrf⟩;clear hown hfr hp hlr hlr0 hrf;cases hm:(decide (x=0)&&tkSign 124 t) with
  | false =>
   rw [hm] at h1;have HRAg:Hid (RAg q (joinN 2 (l.map Prod.fst)) (t::r) st1 x):=by
    show RAg _ _ _ _ _;rw [HQ.out];rcases HEQ.out with ⟨e1,e2⟩ | ⟨e1,e2⟩ | ⟨e1,e2,a,b,e3⟩
    · have hmt:(tkSign 124) t=false:=by rw [e1] at hm;simpa using hm
      rw [<- e2,sevF_end (show (tkSign 124) (hdT (t::r))=false from hmt)];exact .inr (.inl ⟨e1,rfl⟩)
    · rw [e2];exact .inl ⟨e1,rfl⟩
    · rw [e3];exact .inr (.inr ⟨e1,e2,_,_,rfl⟩)
   clear hm
   go_wp2_with fail
   refine h1.mono ?_;rintro e w1 ⟨rfl,hB1⟩;clear h1;have hf1:=HPR.out.fr hB1;have HP1:Hid (Pa c (XV (λk=>X k\/k=w.heap.size) u5) P w1 (t::r) st1 x):=HPR.out.below hB1;have HF1:Hid (Fr (ndW w).heap.size P (ndW w) w1):=HFR.out.then hf1 HFR.out.size
   have HOW1:Hid (w1.ownsRow (ndW w).heap.size 39 3 u5 l.length (cellsNs l)):=own_block HOW.out (λk hk=>(hf1.keep k (HVI.out k hk).1.1 (HVI.out k hk).1).1);have HVI1:Hid (∀g,u5.ownBlock=some g->Im NoX w1 P g/\¬(λk=>X k\/k=w.heap.size) g):=λg hg=>⟨(hf1.keep g (HVI.out g hg).1.1 (HVI.out g hg).1).2,(HVI.out g hg).2⟩;have HKX1:Hid (KidsX (λk=>(ndW w).heap.size<=k/\Im (XV (λk=>X k\/k=w.heap.size) u5) w1 P k) w1 l):=HKX.out.to (λk hk=>⟨(hf1.all k hk.2).1,hk.1,(hf1.all k hk.2).2⟩);have hlB:l.length<=80000:=by have:=HLR.out.1;have:=HLT.out;omega
   clear hf1 hB1 HOW HVI HKX HPR HFR HEQ;have hkd:KdX (λk=>(ndW w).heap.size<=k/\Im (λk=>X k\/k=w.heap.size) w1 P k) w1 u5 (l.map Prod.fst):=kids_of_row HOW1.out (HKX1.out.to (λk hk=>⟨rfl,hk.1,hk.2.less (λq => .inl q)⟩)) (λg hg=>⟨(HOW1.out.lt g hg).1,(HVI1.out g hg).1.with (HVI1.out g hg).2⟩);obtain ⟨hRR,hRl⟩:=ROW.out w1 HF1.out;have HRR:Hid (w1.heap[w.heap.size]? = some (.cells #[.int .i64 0,.int .i64 0,.slice none 0 0] 39 (0,0))):=hRR;have d0:w1.cell? ⟨w.heap.size,0,none⟩=some (.int .i64 0):=cell_of_row _ _ 0 _ _ _ hRR;have df0:w1.frozen? ⟨w.heap.size,0,none⟩=false:=frozen_of_row _ _ 0 _ _ hRR;have d1:w1.cell? ⟨w.heap.size,1,none⟩=some (.int .i64 0):=cell_of_row _ _ 1 _ _ _ hRR;have df1:w1.frozen? ⟨w.heap.size,1,none⟩=false:=frozen_of_row _ _ 1 _ _ hRR;have d2:w1.cell? ⟨w.heap.size,2,none⟩=some (.slice none 0 0):=cell_of_row _ _ 2 _ _ _ hRR;have df2:w1.frozen? ⟨w.heap.size,2,none⟩=false:=frozen_of_row _ _ 2 _ _ hRR;clear hRR;have HPX:Hid (Pa c (λk=>X k\/k=w.heap.size) P w1 (t::r) st1 x):=HP1.out.less (λk hk => .inl hk);by_cases hl1:l.length=1
   · obtain ⟨y,hy⟩:=List.length_eq_one_iff.1 hl1;subst hy;obtain ⟨g,off,cap,z,e1,e2,e3,e4,e5,e6,e7⟩:=hkd.at 0 (by simp);simp only [List.map_cons,List.map_nil,List.getElem_cons_zero,Nat.zero_mul,Nat.add_zero,List.length_cons,List.length_nil,Nat.zero_add] at e1 e2 e4 e5 e6 e7;obtain ⟨ya,yc,rfl,_⟩:=e7.slice;subst e1;have hgl:=e3.2.1;have HFN:Hid _:=FIN.out w1 y.1 (.slice ya y.1.kids.length yc) x (t::r) st1 (HSGL.out y (by simp)) HPX.out HF1.out e7 HRAg.out;clear hkd e7 e3 HOW1 HKX1 HVI1 HP1 HF1 hl1;go_wp2;refine bodyPost_ret (results_row_one rfl _ _ w.heap.size 39 #[.int .i64 y.1.k,.int .i64 y.1.s,.slice ya y.1.kids.length yc] (0,0) _ rfl ?_ Tryz.underlying39 rfl (by kernel_rfl)) rfl ?_
     · exact set3_row HRR.out _ _ _
     exact HFN.out
   · have hl1':((l.length:Int)==1)=false:=by simp;omega
     obtain ⟨va,vc,hv,_⟩:=hkd.slice;rw [List.length_map] at hv;subst hv;have HJ:Hid (joinN 2 (l.map Prod.fst)=⟨2,0,l.map Prod.fst⟩):=by
      show _=_
      match l,hl1 with
      | [],_=>rfl
      | [y],h=>exact absurd rfl h
      | y::y2::m,_=>rfl
     have HFN:Hid _:=FIN.out w1 (joinN 2 (l.map Prod.fst)) (.slice va l.length vc) x (t::r) st1 (joinN_ok rfl (λy hy=>by obtain ⟨u,hu,rfl⟩:=List.mem_map.1 hy;exact HSGL.out u hu)) HPX.out HF1.out (by rw [HJ.out];exact hkd) HRAg.out;rw [HJ.out] at HFN;clear hkd HOW1 HKX1 HVI1 HP1 HF1 hl1;go_wp2;refine bodyPost_ret (results_row_one rfl _ _ w.heap.size 39 #[.int .i64 2,.int .i64 0,.slice va l.length vc] (0,0) _ rfl ?_ Tryz.underlying39 rfl (by kernel_rfl)) rfl ?_
     · exact set3_row HRR.out _ _ _
     exact HFN.out
  | true =>
   rw [hm] at h1;obtain rfl:x=0:=by simp at hm;exact hm.1
   have HMB:Hid (tkSign 124 t=true):=by
    show _=_;simpa using hm
   have HEQ0:Hid (sevF (tkSign 124) List.tail p (f+1) (l.map Prod.fst) (t::r) st1=q0):=by
    show _=_;rcases HEQ.out with ⟨_,e⟩ | ⟨e,_⟩ | ⟨e,_⟩
    · exact e
    · exact absurd rfl e
    · cases e
   clear hm HEQ
   go_wp2_with fail
   refine h1.mono ?_;rintro e w1 ⟨rfl,hB1⟩;clear h1;have hp1:=HPR.out.below hB1;obtain ⟨kk,hkk,c1,f1,hpk⟩:=hp1.adv (sign_end HMB.out);have hfk:Fr w1.heap.size P w1 (w1.setCell ⟨P,1,none⟩ (.int .i64 ((kk:Int)+1))):=fr_own w1 1 (by decide) _;have hPl1:=hp1.lt;have h2:=HCALL.out r st1 _ _ hpk;have hf1:=HPR.out.fr hB1;have HF1:Hid (Fr wr.heap.size P wr (w1.setCell ⟨P,1,none⟩ (.int .i64 ((kk:Int)+1)))):=hf1.then hfk hf1.size
   clear hfk hpk hp1 hf1 hB1
   go_wp2_with fail
   refine h2.mono ?_;rintro e w2 ⟨n,z,x2,r2,st2,rfl,hz,hsg,hp2,hf2,hg2⟩;obtain ⟨za,zc,rfl,_⟩:=hz.slice;unfold ndV;clear c1 f1;have hf12:=HF1.out.then hf2 HF1.out.size
   have HF02:Hid (Fr (ndW w).heap.size P (ndW w) w2):=HFR.out.then hf12 HFR.out.size
   have hszw2:(ndW w).heap.size<=w2.heap.size:=HF02.out.size;obtain ⟨f2,HMATH⟩ :∃f2,Hid (l.length+1+r2.length<=ts.length+2/\r2.length<f2/\(x2=0->l.length+1+r2.length<=ts.length+1)/\Hid ((x2=0/\sevF (tkSign 124) List.tail p f2 ((l++[(n,Value.slice za n.kids.length zc)]).map Prod.fst) r2 st2=q0)\/(x2≠0/\q0 = .inl (r2,((x2:Nat):Int)))\/(x2=6/\(hdT r2).k=1/\∃a b,q0 = .inr (a,r2,b)))/\r2.length+(if x2=0 then 1 else 0)<(t::r).length+(if (0:Nat)=0 then 1 else 0)):=by
    have hL:=HLEFT.out r st1;have hlr:=HLR.out.2.1 (by simp);have hlf:=HLR.out.2.2;simp at hlr hlf;have hmt:tkSign 124 (hdT (t::r))=true:=HMB.out;rcases hg2 with ⟨e1,e2⟩ | ⟨e1,e2⟩ | ⟨e1,e2,a,b,e3⟩
    · rw [e2] at hL;have h1:=hL.1;refine ⟨f+1,by omega,by omega,λh=>absurd h e1,.inr (.inl ⟨e1,by rw [<- HEQ0.out];exact sevF_bad hmt (show p (List.tail (t::r)) st1=_ from e2)⟩),by simp [e1];omega⟩
    · rw [e2] at hL;have h1:=hL.1;refine ⟨f,by omega,by omega,λ_=>by omega,.inl ⟨e1,by rw [<- HEQ0.out,sevF_on hmt (show p (List.tail (t::r)) st1=_ from e2)];simp⟩,by simp [e1];omega⟩
    · rw [e3] at hL;have h1:=hL.1;have e0:x2≠0:=by omega
      obtain ⟨f,rfl⟩ :∃k,f=k+1:=⟨f-1,by omega⟩;refine ⟨f+1,by omega,by omega,λh=>absurd h e0,.inr (.inr ⟨e1,e2,l.map Prod.fst++[a],b,?_⟩),by simp [e0];omega⟩;rw [<- HEQ0.out,sevF_on hmt (show p (List.tail (t::r)) st1=_ from e3),sevF_end];simp [tkSign,e2]
   have hB3:=below_alloc w2 (.cells #[.int .i64 n.k,.int .i64 n.s,.slice za n.kids.length zc] 39);have hsz4:(w2.alloc (.cells #[.int .i64 n.k,.int .i64 n.s,.slice za n.kids.length zc] 39)).heap.size=w2.heap.size+1:=by simp
   have hp4:=hp2.below hB3;have hfr4:=hp2.fr hB3;have HVI4:Hid (∀g,Value.ownBlock u5=some g->Im NoX (w2.alloc (.cells #[.int .i64 n.k,.int .i64 n.s,.slice za n.kids.length zc] 39)) P g/\¬(λk=>X k\/k=w.heap.size) g):=λg hg=>by
    obtain ⟨q1,q2⟩:=HVI.out g hg;exact ⟨(hfr4.keep g (hf12.keep g q1.1 q1).2.1 (hf12.keep g q1.1 q1).2).2,q2⟩
   have HOW4:Hid ((w2.alloc (.cells #[.int .i64 n.k,.int .i64 n.s,.slice za n.kids.length zc] 39)).ownsRow (ndW w).heap.size 39 3 u5 l.length (cellsNs l)):=own_block HOW.out (λk hk=>by
    obtain ⟨q1,q2⟩:=HVI.out k hk;obtain ⟨g1,g2⟩:=hf12.keep k q1.1 q1;exact ((hfr4.keep k g2.1 g2).1).trans g1)
   have HN4:Hid ((w2.alloc (.cells #[.int .i64 n.k,.int .i64 n.s,.slice za n.kids.length zc] 39)).heap[w2.heap.size]? = some (.cells #[.int .i64 n.k,.int .i64 n.s,.slice za n.kids.length zc] 39 (0,0))):=heap_new' _ _;have HP4:Hid (Pa c (XV (λk=>X k\/k=w.heap.size) u5) P (w2.alloc (.cells #[.int .i64 n.k,.int .i64 n.s,.slice za n.kids.length zc] 39)) r2 st2 x2):=hp4;have HF4:Hid (Fr (ndW w).heap.size P (ndW w) (w2.alloc (.cells #[.int .i64 n.k,.int .i64 n.s,.slice za n.kids.length zc] 39))):=HF02.out.then hfr4 hszw2
   have HKX4:Hid (KidsX (λk=>(ndW w).heap.size<=k/\Im (XV (λk=>X k\/k=w.heap.size) u5) (w2.alloc (.cells #[.int .i64 n.k,.int .i64 n.s,.slice za n.kids.length zc] 39)) P k) (w2.alloc (.cells #[.int .i64 n.k,.int .i64 n.s,.slice za n.kids.length zc] 39)) (l++[(n,Value.slice za n.kids.length zc)])):=λy hy=>by
    rcases List.mem_append.1 hy with hy | hy
    · exact (HKX.out y hy).to (λk hk=>by
       obtain ⟨g1,g2⟩:=hf12.all k hk.2;obtain ⟨g3,g4⟩:=hfr4.all k g2;exact ⟨g3.trans g1,hk.1,g4⟩)
    · obtain rfl:y=(n,Value.slice za n.kids.length zc):=by simpa using hy
      exact hz.to (λk hk=>by
       obtain ⟨g3,g4⟩:=hfr4.all k hk.2;exact ⟨g3,by have:=hk.1;have:=HF1.out.size;have:=HFR.out.size;omega,g4⟩)
   have HSZ4:Hid ((w2.alloc (.cells #[.int .i64 n.k,.int .i64 n.s,.slice za n.kids.length zc] 39)).heap.size=w2.heap.size+1):=hsz4;have HSGL6:Hid (∀y∈l++[(n,Value.slice za n.kids.length zc)],SgOk y.1):=λy hy=>by
    rcases List.mem_append.1 hy with hy | hy
    · exact HSGL.out y hy
    · obtain rfl:y=(n,Value.slice za n.kids.length zc):=by simpa using hy
      exact hsg
   have hlB:l.length+1<=80000:=by
    have h8:=HLR.out.1;have h9:=HLT.out;simp at h8;omega
   clear h2 hz hp2 hf2 hf12 hB3 hp4 hfr4 hsz4 hsg hg2 HOW HVI HKX HF02 HSGL
   go_wp2_with (at_builtin;go_must (refine wpList_append_lies _ rfl (.tmp 19) (.tmp 23) 37 rfl (ndW w).heap.size 39 i0 (.agg #[.int .i64 0,.int .i64 0,.slice none 0 0]) 3 40 Tryz.underlying37 hi0 hz0 hz1 hz2 rfl (by decide) _ _ _ rfl HOW4.out ⟨w2.heap.size,0,none⟩ 1 1 (cellsN (n,.slice za n.kids.length zc)) rfl rfl (World.news_of_block HN4.out) (by simp [cellsN,Value.oneCell']) (by omega) (by unfold maxLen;omega) (by omega) (by rw [HSZ4.out];omega) _ rfl ?_);intro g2 cap2 w5 hown5 hgrow5 hat5 hlt5;refine Hid.out ?_)
   refine Lib.hid ?_;have hown6:w5.ownsRow (ndW w).heap.size 39 3 (.slice (some ⟨g2,0,none⟩) (l.length+1) cap2) (l++[(n,Value.slice za n.kids.length zc)]).length (cellsNs (l++[(n,.slice za n.kids.length zc)])):=by rw [cellsNs_snoc];simpa using hown5
   have hn6:∀g,(Value.slice (some ⟨g2,0,none⟩) (l.length+1) cap2).ownBlock=some g->Value.ownBlock u5=some g\/(w2.alloc (.cells #[.int .i64 n.k,.int .i64 n.s,.slice za n.kids.length zc] 39)).heap.size<=g:=λg hg=>by
    obtain rfl:g2=g:=by simpa [Value.ownBlock] using hg
    rcases hat5 with q | q
    · exact .inl q
    · exact .inr (by rw [q];exact Nat.le_refl _)
   have hp6:=HP4.out.regrow (v':=(.slice (some ⟨g2,0,none⟩) (l.length+1) cap2)) (λg hg=>(HVI4.out g hg).1) hgrow5 hn6 (λg hg=>(show g2=g by simpa [Value.ownBlock] using hg) ▸ hlt5);obtain ⟨rg1,rg2,rg3⟩:=regrow (X:=(λk=>X k\/k=w.heap.size)) (v':=(.slice (some ⟨g2,0,none⟩) (l.length+1) cap2)) (λg hg=>(HVI4.out g hg).1) HP4.out.lt hgrow5 hn6;have hkx6:=HKX4.out.to (Q':=λk=>(ndW w).heap.size<=k/\Im (XV (λk=>X k\/k=w.heap.size) (.slice (some ⟨g2,0,none⟩) (l.length+1) cap2)) w5 P k) (λk hk=>⟨(rg1 k hk.2).1,hk.1,(rg1 k hk.2).2⟩);have hvi6:∀g,(Value.slice (some ⟨g2,0,none⟩) (l.length+1) cap2).ownBlock=some g->Im NoX w5 P g/\¬(λk=>X k\/k=w.heap.size) g:=λg hg=>by
    obtain rfl:g2=g:=by simpa [Value.ownBlock] using hg
    rcases hat5 with q | q
    · exact ⟨(HVI4.out g2 q).1.same hgrow5.size rg3,(HVI4.out g2 q).2⟩
    · have hPl4:=HP4.out.lt;refine ⟨⟨hlt5,by omega,λx hx => ?_,id⟩,λhX => ?_⟩
      · rw [rg3] at hx;obtain ⟨k,sv,e1,e2,_⟩:=HP4.out;rw [row_cell e1] at hx;obtain rfl:sv=x:=by simpa [Pc.row] using hx
        intro q2;have:=(e2.row_lt _ q2).2;omega
      · obtain ⟨k,sv,e1,e2,_⟩:=HP4.out;have:=e2.bound g2 (.inl hX);omega
   have hfr6:Fr (ndW w).heap.size P (ndW w) w5:=⟨hgrow5.os.trans HF4.out.os,hgrow5.tape.trans HF4.out.tape,hgrow5.output.trans HF4.out.output,Nat.le_trans HF4.out.size hgrow5.size,λk hk hm=>by
    obtain ⟨e1,e2⟩:=HF4.out.keep k hk hm;have hne:Value.ownBlock u5≠some k:=λq=>by have:=(HOW4.out.lt k q).1;omega
    exact ⟨(hgrow5.block k e2.1 (Ne.symm hne)).trans e1,e2.same hgrow5.size rg3⟩⟩
   have HOW6:Hid (w5.ownsRow (ndW w).heap.size 39 3 (.slice (some ⟨g2,0,none⟩) (l.length+1) cap2) (l++[(n,Value.slice za n.kids.length zc)]).length (cellsNs (l++[(n,.slice za n.kids.length zc)]))):=hown6;have HKX6:Hid (KidsX (λk=>(ndW w).heap.size<=k/\Im (XV (λk=>X k\/k=w.heap.size) (.slice (some ⟨g2,0,none⟩) (l.length+1) cap2)) w5 P k) w5 (l++[(n,Value.slice za n.kids.length zc)])):=hkx6;have HVI6:Hid (∀g,(Value.slice (some ⟨g2,0,none⟩) (l.length+1) cap2).ownBlock=some g->Im NoX w5 P g/\¬(λk=>X k\/k=w.heap.size) g):=hvi6;clear hown5 hgrow5 hat5 hlt5 hown6 hn6 rg1 rg2 rg3 hkx6 hvi6 HKX4 HVI4 HOW4 HN4 HF4 HP4 HSZ4;go_wp2
   go_roundw
   case rel=>exact ⟨f2,l++[(n,.slice za n.kids.length zc)],r2,st2,x2,HMATH.out.2.1,by have:=HMATH.out.1;simp;omega,λh=>by have:=HMATH.out.2.2.1 h;simp;omega,HMATH.out.2.2.2.1,HOW6.out,HVI6,HKX6,HSGL6,hp6,hfr6⟩
   case measure =>
    have ho6:=hp6.okp;rw [hp6.left,hl0,ho6,ho0];exact HMATH.out.2.2.2.2
def errN (d:Nat) (ts:List Tok) (q:NR Nd):NR Nd:=if d=0 then q else .inl (ts,(d:Int))
def RRegexD (b:Nat):Prop:=∀(c:Pc) (P:Nat) (ts:List Tok) (st:Sts) (dp d:Nat),dp+b=20->RNFd 50 c P ts st dp d (RAg (errN d ts (regexM c.N b ts st)))
theorem rregex_step (b:Nat) (h:RPartC b):RRegexD b:=λc P ts st dp d hd=>by
 have hpl:∀ts st,NLeftS ts (signedM (partM c.N (inner c.N b)) ts st):=signedM_left (partM_left (inner_left c.N b));have hkept:∀t r st,tkPart t=false->bgT t=true->t.k=1/\signedM (partM c.N (inner c.N b)) (t::r) st = .inl (t::r,6):=λt r st h1 h2=>by
  obtain ⟨k1,k2,k3⟩:=bgT_kept h1 h2;refine ⟨k1,?_⟩;rw [signedM_eq,partM_set k2,k3];rfl
 have hcat:∀ts st d,RNFd 93 c P ts st dp d (RAg (errN d ts (catM (signedM (partM c.N (inner c.N b))) ts st))):=λts st d=>by
  by_cases h0:d=0
  · have e:errN d ts (catM (signedM (partM c.N (inner c.N b))) ts st)=jnM 0 (sevF tkPart id (signedM (partM c.N (inner c.N b))) (ts.length+1) [] ts st):=by
     unfold errN;rw [if_pos h0,catM_eq]
    rw [e];exact rcat_of c P ts st dp d _ _ (.inl ⟨h0,rfl⟩) (by omega) (λts st=>h c P ts st dp hd) hpl hkept
  · have e:errN d ts (catM (signedM (partM c.N (inner c.N b))) ts st)=jnM 0 (.inl (ts,(d:Int))):=by
     unfold errN;rw [if_neg h0];rfl
    rw [e];exact rcat_of c P ts st dp d _ (signedM (partM c.N (inner c.N b))) (.inr ⟨h0,rfl⟩) (by omega) (λts st=>h c P ts st dp hd) hpl hkept
 have hcl:∀ts st,NLeft ts (catM (signedM (partM c.N (inner c.N b))) ts st):=catM_left hpl;have e:errN d ts (regexM c.N b ts st)=jnM 2 (ptM (catM (signedM (partM c.N (inner c.N b)))) (errN d ts (catM (signedM (partM c.N (inner c.N b))) ts st))):=by
  unfold errN
  split
  · rw [regexM_eq,regexG_eq]
  · rfl
 rw [e];refine rregex_of c P ts st dp d _ _ _ rfl (by omega) (hcat ts st d) ?_ (λts st => ?_) hcl
 · unfold errN
   split
   · exact hcl ts st
   · exact Left.refl ts
 · have:=hcat ts st 0;simpa [errN] using this
theorem rregex_all:∀b,RPartC b/\RRegexD b
 | 0=>by
  have h:=rpart_step 0 (λm h=>by omega);exact ⟨h,rregex_step 0 h⟩
 | b+1=>by
  have ih:=(rregex_all b).2;have h:=rpart_step (b+1) (λm hm c P ts st dp hd=>by
   have e:b=m:=by omega
   subst e;have h9:=ih c P ts st dp 0 hd;simp only [errN,if_true] at h9;exact h9)
  exact ⟨h,rregex_step (b+1) h⟩
theorem rregex_any (b:Nat):RRegexD b:=(rregex_all b).2
end Go.Proofs.YtfdjchnckjgapaaGreatDoor
