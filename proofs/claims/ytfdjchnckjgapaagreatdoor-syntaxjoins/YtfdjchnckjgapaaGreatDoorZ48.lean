/-
  BkTok BkPar
-/
import Derived.Test.YtfdjchnckjgapaaGreatDoorZ47
import Derived.Test.YtfdjchnckjgapaaGreatDoorZ42
namespace Go.Proofs.YtfdjchnckjgapaaGreatDoor
open Go.RowKit Go.Shelf S1
set_option linter.unusedVariables false
def shT (t:Tok):Tok:=⟨t.k,0,t.t,t.s⟩
abbrev sgK (c:Int):Tok:=⟨2,0,[c],[]⟩
def Lx (T:List Int) (K:List Tok):Prop:=K.length<=T.length/\∀(n k p:Nat) (r:List Int) (acc:List Tok),∃ts,ts.map shT=K/\toksF n (k+K.length) (ascU p (T++r)) acc=toksF n k (ascU (p+T.length) r) (acc++ts)
theorem Lx.nil:Lx [] []:=⟨Nat.le_refl _,λn k p r acc=>⟨[],rfl,by simp⟩⟩
theorem Lx.app {A B:List Int} {K M:List Tok} (h:Lx A K) (g:Lx B M):Lx (A++B) (K++M):=by
 refine ⟨by have:=h.1;have:=g.1;simp;omega,λn k p r acc => ?_⟩;obtain ⟨t1,e1,h1⟩:=h.2 n (k+M.length) p (B++r) acc;obtain ⟨t2,e2,h2⟩:=g.2 n k (p+A.length) r (acc++t1);refine ⟨t1++t2,by rw [List.map_append,e1,e2],?_⟩;rw [show k+(K++M).length=k+M.length+K.length by simp;omega,List.append_assoc,h1,h2,List.append_assoc acc,List.length_append,Nat.add_assoc]
theorem toksF_skip {n k p:Nat} {c:Int} {r:List Int} {acc:List Tok} (h:blankR c=true):toksF n k (ascU p (c::r)) acc=toksF n k (ascU (p+1) r) acc:=by
 cases k with
 | zero=>rfl
 | succ k =>
  have hb:blankL false (ascU p (c::r))=blankL false (ascU (p+1) r):=by
   rw [ascU_cons];have h35:c≠35:=by rintro rfl;exact absurd h (by decide)
   simp [blankL,h,h35]
  unfold toksF;rw [hb]
theorem Lx.blank {c:Int} (h:blankR c=true):Lx [c] []:=⟨by simp,λn k p r acc=>⟨[],rfl,by rw [List.append_nil];exact toksF_skip h⟩⟩
theorem blankL_no {p:Nat} {c:Int} {r:List Int} (h:blankR c=false) (h35:c≠35):blankL false (ascU p (c::r))=ascU p (c::r):=by
 rw [ascU_cons];simp [blankL,h,h35]
theorem Lx.sign {c:Int} (h:tokR c=true):Lx [c] [sgK c]:=by
 have hb:blankR c=false/\c≠35/\nameB c=false:=by
  simp [tokR,or_assoc] at h;rcases h with h | h | h | h | h | h | h | h | h | h | h | h | h<;>subst h<;>decide
 refine ⟨Nat.le_refl _,λn k p r acc=>⟨[⟨2,p,[c],[]⟩],rfl,?_⟩⟩;refine toksF_on (t:=⟨2,p,[c],[]⟩) ?_ (by exact (by decide:(2:Int)≠4));show tokO n (blankL false (ascU p (c::r)))=_;rw [blankL_no hb.1 hb.2.1,ascU_cons,tokO_cons,if_neg (by simp [fitU,hb.2.2]),if_pos (by simp [fitU,h])];rfl
theorem setF_set2 (n:Nat) (rest:List Int):∀(l:List Rg) (k p:Nat) (acc:List Rg),Fits l->l.length<k->setF n k (ascU p (setLs l++93::rest)) acc=SR.good (acc++l) (ascU (p+(setLs l).length+1) rest)
 | [],k,p,acc,_,hk=>by
  obtain ⟨j,rfl⟩ :∃j,k=j+1:=⟨k-1,by simp at hk;omega⟩;have hs:sgn (isC 93) (ascU p (setLs []++93::rest))=(some 93,ascU (p+1) rest):=rfl;rw [setF_end hs,List.append_nil];rfl
 | r::l,k,p,acc,hf,hk=>by
  obtain ⟨j,rfl⟩ :∃j,k=j+1:=⟨k-1,by simp at hk;omega⟩;obtain ⟨h0,h1,h2⟩:=hf r (by simp);have e:setLs (r::l)++93::rest=rgL r++(setLs l++93::rest):=by simp [setLs]
  obtain ⟨t,ht⟩ :∃t,rgL r=92::t:=⟨_,by unfold rgL brL;rfl⟩;have hc :∃c rest',setLs l++93::rest=c::rest'/\c≠45:=by
   cases l with
   | nil=>exact ⟨93,rest,rfl,by decide⟩
   | cons r2 l2 =>
    refine ⟨92,_,by show (rgL r2++setLs l2)++93::rest=_;unfold rgL brL;rfl,by decide⟩
  obtain ⟨c,rest',hcr,hc45⟩:=hc;have hs:sgn (isC 93) (ascU p (setLs (r::l)++93::rest))=(none,ascU p (setLs (r::l)++93::rest)):=by
   rw [e,ht];show sgn (isC 93) (ascU p (92::(t++_)))=_;rw [sgn_asc,if_neg (by decide)];rfl
  have hen:entL (ascU p (setLs (r::l)++93::rest))=(some r,ascU (p+(rgL r).length) (setLs l++93::rest)):=by
   rw [e,hcr];exact entL_rg p r h0 h1 h2 c hc45 rest'
  rw [setF_on hs hen (by simp;omega),setF_set2 n rest l j _ (acc++[r]) (λx hx=>hf x (by simp [hx])) (by simpa using hk)];simp only [List.append_assoc,List.singleton_append]
  congr 2
  simp [setLs];omega
theorem setLs_ge:∀l:List Rg,l.length<=(setLs l).length
 | []=>Nat.le_refl _
 | r::l=>by
  show _<=(rgL r++setLs l).length;have:1<=(rgL r).length:=by unfold rgL brL;simp
  have:=setLs_ge l;simp;omega
theorem Lx.set {l:List Rg} (hf:Fits l):Lx (setL l) [⟨3,0,[],l⟩]:=by
 refine ⟨by unfold setL;simp,λn k p r acc=>⟨[⟨3,p,[],l⟩],rfl,?_⟩⟩;refine toksF_on (t:=⟨3,p,[],l⟩) ?_ (by exact (by decide:(3:Int)≠4));have hu:setL l++r=91::(setLs l++93::r):=by simp [setL]
 have hl:=setLs_ge l;rw [hu,blankL_no (by decide) (by decide),ascU_cons,tokO_cons,if_neg (by simp [fitU,nameB]),if_neg (by simp [fitU,tokR]),if_pos (by simp [fitU,isC]),setF_set2 n r l _ (p+1) [] hf (by rw [ascU_len];simp;omega)];show OR.good _ _=_
 congr 2
 simp [setL];omega
def kwK (b:Bool):List Tok:=[⟨1,0,if b=true then wBreak else wKeep,[]⟩]
theorem Lx.word (b:Bool):Lx (kwT b) (kwK b):=by
 have h32:∀(p:Nat) (r:List Int),(ascU p (32::r)).takeWhile (fitU nameR)=[]/\(ascU p (32::r)).dropWhile (fitU nameR)=ascU p (32::r):=λp r=>by
  rw [ascU_cons];constructor<;>simp [fitU,nameR,nameB,decB]
 cases b with
 | true =>
  refine ⟨by decide,λn k p r acc=>⟨[⟨1,p,wBreak,[]⟩],rfl,?_⟩⟩;have h:=h32 (p+5) r;refine (toksF_on (t:=⟨1,p,wBreak,[]⟩) (r:=ascU (p+5) (32::r)) ?_ (by exact (by decide:(1:Int)≠4))).trans (toksF_skip (by decide));show tokO n (blankL false (ascU p (98::([114,101,97,107]++32::r))))=_;rw [blankL_no (by decide) (by decide),ascU_cons,tokO_cons,if_pos (by simp [fitU,nameB])];have e:ascU (p+1) ([114,101,97,107]++32::r)=⟨114,p+1,1,false⟩::⟨101,p+2,1,false⟩::⟨97,p+3,1,false⟩::⟨107,p+4,1,false⟩::ascU (p+5) (32::r):=rfl;rw [e];simp [fitU,nameR,nameB,decB] at h ⊢;rw [h.1,h.2];exact ⟨rfl,rfl⟩
 | false =>
  refine ⟨by decide,λn k p r acc=>⟨[⟨1,p,wKeep,[]⟩],rfl,?_⟩⟩;have h:=h32 (p+4) r;refine (toksF_on (t:=⟨1,p,wKeep,[]⟩) (r:=ascU (p+4) (32::r)) ?_ (by exact (by decide:(1:Int)≠4))).trans (toksF_skip (by decide));show tokO n (blankL false (ascU p (107::([101,101,112]++32::r))))=_;rw [blankL_no (by decide) (by decide),ascU_cons,tokO_cons,if_pos (by simp [fitU,nameB])];have e:ascU (p+1) ([101,101,112]++32::r)=⟨101,p+1,1,false⟩::⟨101,p+2,1,false⟩::⟨112,p+3,1,false⟩::ascU (p+4) (32::r):=rfl;rw [e];simp [fitU,nameR,nameB,decB] at h ⊢;rw [h.1,h.2];exact ⟨rfl,rfl⟩
def brK (b:Bool) (t:List Tok):List Tok:=if b=true then sgK 40::(t++[sgK 41]) else t
def barK (fst:Bool) (k:Int):List Tok:=if fst=false/\k=2 then [sgK 124] else []
def tkK (g:Nd->List Tok) (k:Int):Bool->List Nd->List Tok
 | _,[]=>[]
 | fst,x::l=>barK fst k++(brK (inBr x.k k) (g x)++tkK g k false l)
def headK (st:Sts) (n:Nd):List Tok:=if n.k=1 then [⟨3,0,[],st.getD n.s.toNat []⟩] else []
def signTk (k:Int):List Tok:=if k=3 then [sgK 42] else if k=4 then [sgK 43] else if k=5 then [sgK 63] else []
def tkN:Nat->Sts->Nd->List Tok
 | 0,st,n=>headK st n++signTk n.k
 | f+1,st,n=>headK st n++(tkK (tkN f st) n.k true n.kids++signTk n.k)
theorem lx_sign (k:Int):Lx (signT k) (signTk k):=by
 unfold signT signTk
 split
 · exact Lx.sign (by decide)
 · split
   · exact Lx.sign (by decide)
   · split
     · exact Lx.sign (by decide)
     · exact Lx.nil
theorem lx_head {st:Sts} (hF:∀s∈st,Fits s) {n:Nd} (h:n.k=1->0<=n.s/\n.s<(st.length:Int)):Lx (headT (st.map setL) n) (headK st n):=by
 unfold headT headK
 split
 · rename_i q;obtain ⟨h0,h1⟩:=h q;have hl:n.s.toNat<st.length:=by omega
   have e1:(st.map setL).getD n.s.toNat []=setL st[n.s.toNat]:=by simp [List.getD,hl]
   have e2:st.getD n.s.toNat []=st[n.s.toNat]:=by simp [List.getD,hl]
   rw [e1,e2];exact Lx.set (hF _ (List.getElem_mem hl))
 · exact Lx.nil
theorem lx_br {b:Bool} {T:List Int} {K:List Tok} (h:Lx T K):Lx (brT b T) (brK b K):=by
 unfold brT brK
 split
 · exact (Lx.sign (c:=40) (by decide)).app (h.app (Lx.sign (c:=41) (by decide)))
 · exact h
theorem lx_bar (fst:Bool) (k:Int):Lx (barT fst k) (barK fst k):=by
 unfold barT barK
 split
 · exact Lx.sign (by decide)
 · exact Lx.nil
theorem lx_K {g:Nd->List Int} {g':Nd->List Tok} {k:Int}:∀ {l:List Nd} {fst:Bool},(∀x∈l,Lx (g x) (g' x))->Lx (txK g k fst l) (tkK g' k fst l)
 | [],_,_=>Lx.nil
 | x::l,fst,h=>(lx_bar fst k).app ((lx_br (h x (by simp))).app (lx_K λy hy=>h y (by simp [hy])))
theorem lx_N {st:Sts} (hF:∀s∈st,Fits s):∀ {f:Nat} {n:Nd},SIn f st.length n->Lx (txN f (st.map setL) n) (tkN f st n)
 | 0,n,h=>(lx_head hF h.here).app (lx_sign _)
 | f+1,n,h=>(lx_head hF h.here).app ((lx_K λx hx=>lx_N hF (h.2 x hx)).app (lx_sign _))
def rlK (st:Sts) (x:Rl):List Tok:=kwK x.b++(tkN 120 st x.l++(sgK 47::(tkN 120 st x.r++[sgK 59])))
def progK (st:Sts) (rl:List Rl):List Tok:=rl.flatMap (rlK st)
theorem lx_prog {st:Sts} (hF:∀s∈st,Fits s):∀ {rl:List Rl},(∀x∈rl,SIn 120 st.length x.l/\SIn 120 st.length x.r)->Lx (progT (st.map setL) rl) (progK st rl)
 | [],_=>Lx.nil
 | x::rl,h=>by
  have hx:=h x (by simp);have h1:Lx ([59,10]:List Int) [sgK 59]:=(Lx.sign (c:=59) (by decide)).app (Lx.blank (c:=10) (by decide));exact ((Lx.word x.b).app ((lx_N hF hx.1).app ((Lx.sign (c:=47) (by decide)).app ((lx_N hF hx.2).app h1)))).app (lx_prog hF λy hy=>h y (by simp [hy]))
theorem Lx.all {T:List Int} {K:List Tok} (h:Lx T K) (n:Nat) :∃ts,ts.map shT=K/\toksL n (ascU 0 T)=TR.good (ts++[⟨4,n,[],[]⟩]):=by
 obtain ⟨ts,e,h2⟩:=h.2 n (T.length-K.length+1) 0 [] [];refine ⟨ts,e,?_⟩;unfold toksL;have h1:=h.1;rw [ascU_len,show T.length+1=T.length-K.length+1+K.length by omega];rw [List.append_nil] at h2;rw [h2];exact toksF_end (t:=⟨4,n,[],[]⟩) (r:=[]) rfl rfl
def Apart (st:Sts):Prop:=∀i j,(hi:i<st.length)->(hj:j<st.length)->st[i]=st[j]->i=j
theorem idxS_none {s:List Rg}:∀ {l:Sts},(∀x∈l,x≠s)->idxS s l=none
 | [],_=>rfl
 | x::l,h=>by
  have h1:¬sameS x s=true:=λq=>h x (by simp) (sameS_iff.1 q);unfold idxS;rw [if_neg h1,idxS_none λy hy=>h y (by simp [hy])];rfl
theorem idxS_at:∀ {l:Sts} {i:Nat} (h:i<l.length),(∀j,(hj:j<i)->l[j]'(Nat.lt_trans hj h)≠l[i])->idxS l[i] l=some i
 | [],i,h,_=>by cases h
 | x::l,0,h,_=>by
  have h1:sameS x x=true:=sameS_iff.2 rfl;show (if sameS x x=true then some 0 else _)=_;rw [if_pos h1]
 | x::l,i+1,h,hn=>by
  have h1:¬sameS x (x::l)[i+1]=true:=λq=>hn 0 (by omega) (sameS_iff.1 q);unfold idxS;rw [if_neg h1];have:=idxS_at (l:=l) (i:=i) (by simpa using h) (λj hj=>by have:=hn (j+1) (by omega);simpa using this);simp only [List.getElem_cons_succ];rw [this];rfl
theorem place_met {st:Sts} (ha:Apart st) (h60:st.length<=60) {m m':Nat} {s:Int} (hm:meetS m s=some m') (hl:m'<=st.length) :
 ∃i:Nat,s=(i:Int)/\placeM (st.take m) (st.getD s.toNat [])=some (i,st.take m'):=by
 unfold meetS at hm
 split at hm
 · rename_i q;obtain rfl:m+1=m':=Option.some.inj hm;subst q;have hml:m<st.length:=by omega
   have e:st.getD ((m:Int)).toNat []=st[m]:=by simp [List.getD,hml]
   refine ⟨m,rfl,?_⟩;rw [e];unfold placeM;have hno:idxS st[m] (st.take m)=none:=idxS_none λx hx=>by
    obtain ⟨i,hi,rfl⟩:=List.getElem_of_mem hx;rw [List.length_take] at hi;rw [List.getElem_take];intro q;have:=ha i m (by omega) hml q;omega
   rw [hno];simp only;have hlen:(st.take m).length=m:=by rw [List.length_take];omega
   rw [hlen,if_neg (by omega),List.take_append_getElem hml]
 · split at hm
   · rename_i q1 q;obtain rfl:m=m':=Option.some.inj hm;obtain ⟨i,rfl⟩ :∃i:Nat,s=(i:Int):=⟨s.toNat,by omega⟩;have hi:i<m:=by omega
     have hil:i<st.length:=by omega
     have hit:i<(st.take m).length:=by rw [List.length_take];omega
     have e:st.getD ((i:Int)).toNat []=(st.take m)[i]:=by rw [List.getElem_take];simp [List.getD,hil]
     refine ⟨i,rfl,?_⟩;rw [e];unfold placeM;rw [idxS_at hit (λj hj q=>by
      rw [List.getElem_take,List.getElem_take] at q;have:=ha j i (by omega) hil q;omega)]
   · cases hm
theorem sh_cons {ts:List Tok} {t:Tok} {K:List Tok} (h:ts.map shT=t::K) :∃u r,ts=u::r/\shT u=t/\r.map shT=K:=by
 cases ts with
 | nil=>cases h
 | cons u r=>rw [List.map_cons] at h;exact ⟨u,r,rfl,(List.cons.inj h).1,(List.cons.inj h).2⟩
theorem hd_sh {r R:List Tok} (h:r.map shT=R):shT (hdT r)=shT (hdT R):=by
 subst h;cases r<;>rfl
theorem sign_sh {c:Int} {t u:Tok} (h:shT t=shT u):tkSign c t=tkSign c u:=by
 have h1:tkSign c (shT t)=tkSign c (shT u):=by rw [h]
 exact h1
theorem kind_sh {t u:Tok} (h:shT t=shT u):kindT t=kindT u:=by
 have h1:kindT (shT t)=kindT (shT u):=by rw [h]
 exact h1
theorem part_sh {t u:Tok} (h:shT t=shT u):tkPart t=tkPart u:=by
 have h1:tkPart (shT t)=tkPart (shT u):=by rw [h]
 exact h1
def Eat {α:Type} (C:Tok->Prop) (p:List Tok->Sts->NR α) (K:List Tok) (st:Sts) (a:α) (st':Sts):Prop :=
 ∀ts R,ts.map shT=K++R->C (hdT R)->∃r,r.map shT=R/\p ts st = .inr (a,r,st')
def Cat0 (t:Tok):Prop:=kindT t=0/\tkPart t=false
def Reg0 (t:Tok):Prop:=Cat0 t/\tkSign 124 t=false
def Sgd (p:List Tok->Sts->NR Nd) (d:Nat) (K:List Tok) (st:Sts) (n:Nd) (st':Sts):Prop :=
 ∀ts R,ts.map shT=K++R->∃r,r.map shT=R/\signedM p ts st=signF (4-d) d n r st'
theorem Sgd.cat {p:List Tok->Sts->NR Nd} {d:Nat} {K:List Tok} {st st':Sts} {n:Nd} (h:Sgd p d K st n st') (hd:d<=3):Eat (λt=>kindT t=0) (signedM p) K st n st':=by
 intro ts R he hC;obtain ⟨r,hr,e⟩:=h ts R he;refine ⟨r,hr,?_⟩;rw [e];obtain ⟨j,hj⟩ :∃j,4-d=j+1:=⟨3-d,by omega⟩;rw [hj];unfold signF;rw [if_pos ((kind_sh (hd_sh hr)).trans hC)]
theorem Sgd.sign {p:List Tok->Sts->NR Nd} {d:Nat} {K:List Tok} {st st':Sts} {x:Nd} {k:Int} (h:Sgd p d K st x st') (hd:d<3) (hk:signK k=true):Sgd p (d+1) (K++signTk k) st ⟨k,0,[x]⟩ st':=by
 intro ts R he;have hs :∃c,signTk k=[sgK c]/\kindT (sgK c)=k/\k≠0:=by
  simp [signK] at hk;rcases hk with (hk | hk) | hk<;>subst hk
  · exact ⟨42,rfl,by decide,by decide⟩
  · exact ⟨43,rfl,by decide,by decide⟩
  · exact ⟨63,rfl,by decide,by decide⟩
 obtain ⟨c,hc,hkk,hk0⟩:=hs;rw [hc,List.append_assoc] at he;obtain ⟨r,hr,e⟩:=h ts _ he;obtain ⟨u,r2,rfl,hu,hr2⟩:=sh_cons hr;refine ⟨r2,hr2,?_⟩;rw [e];obtain ⟨j,hj⟩ :∃j,4-d=j+1:=⟨3-d,by omega⟩;have hku:kindT u=k:=(kind_sh (t:=u) (u:=sgK c) (by rw [hu];rfl)).trans hkk;rw [hj];have hst:signF (j+1) d x (u::r2) st'=if kindT u=0 then .inr (x,u::r2,st') else if d=3 then .inl (u::r2,3) else signF j (d+1) ⟨kindT u,0,[x]⟩ r2 st':=rfl
 rw [hst,hku,if_neg hk0,if_neg (by omega),show 4-(d+1)=j by omega]
def Chn (p:List Tok->Sts->NR Nd):List Tok->Sts->List Nd->Sts->Prop
 | K,st,[],st2=>K=[]/\st2=st
 | K,st,x::l,st2=>∃A M st1,K=A++M/\Eat (λt=>kindT t=0) p A st x st1/\(∃t T,A=t::T/\tkPart t=true/\kindT t=0)/\Chn p M st1 l st2
theorem Chn.nil {p:List Tok->Sts->NR Nd} (st:Sts):Chn p [] st [] st:=⟨rfl,rfl⟩
theorem Chn.cons {p:List Tok->Sts->NR Nd} {K M:List Tok} {st st1 st2:Sts} {x:Nd} {l:List Nd} (h1:Eat (λt=>kindT t=0) p K st x st1) (h2 :∃t T,K=t::T/\tkPart t=true/\kindT t=0) (h3:Chn p M st1 l st2):Chn p (K++M) st (x::l) st2:=⟨K,M,st1,rfl,h1,h2,h3⟩
theorem Chn.ind {p:List Tok->Sts->NR Nd} {motive:∀K st l st2,Chn p K st l st2->Prop} (nil:∀st,motive [] st [] st (Chn.nil st))
 (cons:∀ {K M:List Tok} {st st1 st2:Sts} {x:Nd} {l:List Nd} (h1:Eat (λt=>kindT t=0) p K st x st1) (h2 :∃t T,K=t::T/\tkPart t=true/\kindT t=0) (h3:Chn p M st1 l st2) (ih:motive M st1 l st2 h3),motive (K++M) st (x::l) st2 (Chn.cons h1 h2 h3)) :
 ∀ {K:List Tok} {st:Sts} {l:List Nd} {st2:Sts} (h:Chn p K st l st2),motive K st l st2 h:=by
 intro K st l
 induction l generalizing K st with
 | nil=>intro st2 h;obtain ⟨rfl,rfl⟩:=h;exact nil _
 | cons x l ih=>intro st2 h;obtain ⟨A,M,st1,rfl,h1,h2,h3⟩:=h;exact cons h1 h2 h3 (ih h3)
theorem Chn.hd {p:List Tok->Sts->NR Nd} {K:List Tok} {st st':Sts} {l:List Nd} (h:Chn p K st l st') {R:List Tok} (hR:kindT (hdT R)=0):kindT (hdT (K++R))=0:=by
 induction h using Chn.ind with
 | nil st=>exact hR
 | cons h1 h2 h3 _ =>
  obtain ⟨t,T,rfl,_,h0⟩:=h2;exact h0
theorem catF_eat {p:List Tok->Sts->NR Nd} {K:List Tok} {st st':Sts} {l:List Nd} (h:Chn p K st l st'):∀ {acc:List Nd} {f:Nat},l.length<f->Eat Cat0 (catF p f acc) K st (acc++l) st':=by
 induction h using Chn.ind with
 | nil st =>
  intro acc f hf ts R he hC;obtain ⟨g,rfl⟩ :∃g,f=g+1:=⟨f-1,by simp at hf;omega⟩;refine ⟨ts,he,?_⟩;unfold catF;have:tkPart (hdT ts)=false:=(part_sh (hd_sh (R:=R) he)).trans hC.2;rw [if_neg (by rw [this];decide),List.append_nil]
 | cons h1 h2 h3 ih =>
  rename_i K M st st1 st2 x l;intro acc f hf ts R he hC;obtain ⟨g,rfl⟩ :∃g,f=g+1:=⟨f-1,by simp at hf;omega⟩;rw [List.append_assoc] at he;obtain ⟨r,hr,e⟩:=h1 ts _ he (h3.hd hC.1);obtain ⟨r2,hr2,e2⟩:=ih (acc:=acc++[x]) (f:=g) (by simp at hf;omega) r R hr hC;refine ⟨r2,hr2,?_⟩;obtain ⟨t,T,rfl,ht,_⟩:=h2;have hp:tkPart (hdT ts)=true:=(part_sh (hd_sh he)).trans ht;unfold catF;rw [if_pos hp,e];simp only;rw [e2,List.append_assoc];rfl
theorem catM_eat {p:List Tok->Sts->NR Nd} {K:List Tok} {st st':Sts} {l:List Nd} (h:Chn p K st l st') (hl:l.length<=K.length):Eat Cat0 (catM p) K st (joinN 0 l) st':=by
 intro ts R he hC;have hlen:K.length<=ts.length:=by
  have:=congrArg List.length he;simp at this;omega
 obtain ⟨r,hr,e⟩:=catF_eat h (acc:=[]) (f:=ts.length+1) (by omega) ts R he hC;refine ⟨r,hr,?_⟩;unfold catM;rw [e];rfl
def Alt (p:List Tok->Sts->NR Nd):List Tok->Sts->List Nd->Sts->Prop
 | K,st,[],st2=>K=[]/\st2=st
 | K,st,x::l,st2=>∃A M st1,K=sgK 124::(A++M)/\Eat Cat0 p A st x st1/\Alt p M st1 l st2
theorem Alt.nil {p:List Tok->Sts->NR Nd} (st:Sts):Alt p [] st [] st:=⟨rfl,rfl⟩
theorem Alt.cons {p:List Tok->Sts->NR Nd} {K M:List Tok} {st st1 st2:Sts} {x:Nd} {l:List Nd} (h1:Eat Cat0 p K st x st1) (h3:Alt p M st1 l st2):Alt p (sgK 124::(K++M)) st (x::l) st2:=⟨K,M,st1,rfl,h1,h3⟩
theorem Alt.ind {p:List Tok->Sts->NR Nd} {motive:∀K st l st2,Alt p K st l st2->Prop} (nil:∀st,motive [] st [] st (Alt.nil st))
 (cons:∀ {K M:List Tok} {st st1 st2:Sts} {x:Nd} {l:List Nd} (h1:Eat Cat0 p K st x st1) (h3:Alt p M st1 l st2) (ih:motive M st1 l st2 h3),motive (sgK 124::(K++M)) st (x::l) st2 (Alt.cons h1 h3)) :
 ∀ {K:List Tok} {st:Sts} {l:List Nd} {st2:Sts} (h:Alt p K st l st2),motive K st l st2 h:=by
 intro K st l
 induction l generalizing K st with
 | nil=>intro st2 h;obtain ⟨rfl,rfl⟩:=h;exact nil _
 | cons x l ih=>intro st2 h;obtain ⟨A,M,st1,rfl,h1,h3⟩:=h;exact cons h1 h3 (ih h3)
theorem Alt.hd {p:List Tok->Sts->NR Nd} {K:List Tok} {st st':Sts} {l:List Nd} (h:Alt p K st l st') {R:List Tok} (hR:Cat0 (hdT R)):Cat0 (hdT (K++R)):=by
 induction h using Alt.ind with
 | nil st=>exact hR
 | cons h1 h2 _=>exact ⟨(by decide:kindT (sgK 124)=0),(by decide:tkPart (sgK 124)=false)⟩
theorem altF_eat {p:List Tok->Sts->NR Nd} {K:List Tok} {st st':Sts} {l:List Nd} (h:Alt p K st l st'):∀ {acc:List Nd} {f:Nat},l.length<f->Eat Reg0 (altF p f acc) K st (acc++l) st':=by
 induction h using Alt.ind with
 | nil st =>
  intro acc f hf ts R he hC;obtain ⟨g,rfl⟩ :∃g,f=g+1:=⟨f-1,by simp at hf;omega⟩;refine ⟨ts,he,?_⟩;unfold altF;have:tkSign 124 (hdT ts)=false:=(sign_sh (hd_sh (R:=R) he)).trans hC.2;rw [if_neg (by rw [this];decide),List.append_nil]
 | cons h1 h3 ih =>
  rename_i K M st st1 st2 x l;intro acc f hf ts R he hC;obtain ⟨g,rfl⟩ :∃g,f=g+1:=⟨f-1,by simp at hf;omega⟩;obtain ⟨u,ts',rfl,hu,he'⟩:=sh_cons he;have he2:ts'.map shT=K++(M++R):=by rw [<- List.append_assoc];exact he'
  obtain ⟨r,hr,e⟩:=h1 ts' _ he2 (h3.hd hC.1);obtain ⟨r2,hr2,e2⟩:=ih (acc:=acc++[x]) (f:=g) (by simp at hf;omega) r R hr hC;refine ⟨r2,hr2,?_⟩;have hp:tkSign 124 (hdT (u::ts'))=true:=(sign_sh (t:=u) (u:=sgK 124) (by rw [hu];rfl)).trans (by decide);unfold altF;rw [if_pos hp];show (match p ts' st with | .inl e=>_ | .inr (n,r,st')=>_)=_;rw [e];simp only;rw [e2,List.append_assoc];rfl
theorem regexG_eat {p:List Tok->Sts->NR Nd} {K M:List Tok} {st st1 st':Sts} {x:Nd} {l:List Nd} (h1:Eat Cat0 p K st x st1) (h:Alt p M st1 l st') (hl:l.length<=M.length):Eat Reg0 (regexG p) (K++M) st (joinN 2 (x::l)) st':=by
 intro ts R he hC;rw [List.append_assoc] at he;obtain ⟨r,hr,e⟩:=h1 ts _ he (h.hd hC.1);have hlen:M.length<=r.length:=by
  have:=congrArg List.length hr;simp at this;omega
 obtain ⟨r2,hr2,e2⟩:=altF_eat h (acc:=[x]) (f:=r.length+1) (by omega) r R hr hC;refine ⟨r2,hr2,?_⟩;unfold regexG;rw [e];simp only;rw [e2];rfl
end Go.Proofs.YtfdjchnckjgapaaGreatDoor
