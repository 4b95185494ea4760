/-
  AgM AgM2
-/
import Derived.Test.YtfdjchnckjgapaaGreatDoorZ42
import Derived.Test.YtfdjchnckjgapaaGreatDoorZ25
namespace Go.Proofs.YtfdjchnckjgapaaGreatDoor
open Go.RowKit S1
set_option linter.unusedVariables false
def HtK:Nat->List Nd->Prop
 | 0,l=>l=[]
 | d+1,l=>∀x∈l,HtK d x.kids
theorem HtK.up:∀ {d:Nat} {l:List Nd},HtK d l->HtK (d+1) l
 | 0,l,h=>λx hx=>by rw [show l=[] from h] at hx;cases hx
 | d+1,l,h=>λx hx=>HtK.up (h x hx)
theorem HtK.more {d e:Nat} {l:List Nd} (h:HtK d l) (he:d<=e):HtK e l:=by
 induction he with
 | refl=>exact h
 | step _ ih=>exact ih.up
theorem okN_set {f dp sg:Nat} {n:Nd} (h:n.k=1) (hk:n.kids=[]):okN f dp sg n=true:=by
 cases f<;>simp [okN,h,hk]
theorem okN_mono:∀ {f dp sg:Nat} {n:Nd},okN f (dp+1) sg n=true->okN f dp sg n=true
 | 0,dp,sg,n,h=>h
 | f+1,dp,sg,n,h=>by
  unfold okN at h ⊢;by_cases q:n.k=1
  · simpa [q] using h
  · simp only [q,if_false,Bool.and_eq_true,List.all_eq_true,decide_eq_true_eq] at h ⊢;refine ⟨h.1,λx hx => ?_⟩;obtain ⟨h1,h2⟩:=h.2 x hx;have e:dp+1+brN x.k n.k=dp+brN x.k n.k+1:=by omega
    rw [e] at h1 h2;exact ⟨by omega,okN_mono h2⟩
def MayA (dp:Nat) (n:Nd):Prop:=dp<=20/\∀f sg,sg+cntN 4 n<=3->okN f dp sg n=true
theorem MayA.mono {dp:Nat} {n:Nd} (h:MayA (dp+1) n):MayA dp n:=⟨by have:=h.1;omega,λf sg q=>okN_mono (h.2 f sg q)⟩
theorem cnt_fuel:∀ {f:Nat} {n:Nd},cntN (f+1) n<=f->cntN f n=cntN (f+1) n
 | 0,n,h=>by
  have:cntN (0+1) n=0:=by omega
  rw [this];rfl
 | f+1,n,h=>by
  conv=>lhs;unfold cntN
  conv=>rhs;unfold cntN
  unfold cntN at h;by_cases q:signK n.k=true
  · simp only [q,if_true] at h ⊢;cases e:n.kids with
    | nil=>rfl
    | cons x l =>
     rw [e] at h;simp only at h ⊢;rw [cnt_fuel (f:=f) (n:=x) (by omega)]
  · simp only [q,if_false,Bool.false_eq_true]
theorem cnt_plain {n:Nd} (h:signK n.k=false):∀f,cntN f n=0
 | 0=>rfl
 | f+1=>by unfold cntN;simp [h]
theorem cnt_sign {k:Int} {n:Nd} (hk:signK k=true) (f:Nat):cntN (f+1) ⟨k,0,[n]⟩=cntN f n+1:=by
 conv=>lhs;unfold cntN
 simp [hk]
theorem signK_ne {k:Int} (h:signK k=true):k≠0/\k≠1/\k≠2:=by
 simp [signK] at h;omega
def PartA (dp:Nat) (n:Nd):Prop:=MayA dp n/\(n.k=0\/n.k=2->MayA (dp+1) n)
def CatA (dp:Nat) (n:Nd):Prop:=MayA dp n/\(n.k=2->MayA (dp+1) n)
theorem PartA.cat {dp:Nat} {n:Nd} (h:PartA dp n):CatA dp n:=⟨h.1,λq=>h.2 (.inr q)⟩
theorem MayA.part {dp:Nat} {n:Nd} (h:MayA (dp+1) n):PartA dp n:=⟨h.mono,λ_=>h⟩
theorem PartA.sign {dp:Nat} {n:Nd} {k:Int} (h:PartA dp n) (hk:signK k=true) (hc:cntN 4 n<=2):PartA dp ⟨k,0,[n]⟩:=by
 have hne:=signK_ne hk;have h34:cntN 3 n=cntN 4 n:=cnt_fuel (f:=3) (show cntN 4 n<=3 by omega);refine ⟨⟨h.1.1,λf sg q => ?_⟩,λq=>by rcases q with q | q<;>simp at q<;>omega⟩;rw [cnt_sign hk,h34] at q;have hok:okH sg ⟨k,0,[n]⟩=true:=by
  have e1:sgs sg k=sg+1:=by unfold sgs;rw [if_pos hk]
  simp [okH,e1,hasP,hne.1,hne.2.2,hk];omega
 cases f with
 | zero=>unfold okN;simp [hne.2.1,hok]
 | succ f =>
  unfold okN;have e1:sgs sg k=sg+1:=by unfold sgs;rw [if_pos hk]
  simp only [hne.2.1,if_false,hok,Bool.true_and,List.all_cons,List.all_nil,Bool.and_true,Bool.and_eq_true,decide_eq_true_eq,e1];by_cases z:n.k=0\/n.k=2
  · have hb:brN n.k k=1:=by
     unfold brN inBr;rcases z with z | z<;>simp [z,hne.2.2]
    rw [hb];exact ⟨(h.2 z).1,(h.2 z).2 f (sg+1) (by omega)⟩
  · have hb:brN n.k k=0:=by
     unfold brN inBr;have z1:n.k≠0:=λe=>z (.inl e);have z2:n.k≠2:=λe=>z (.inr e);simp [z1,z2]
    rw [hb,Nat.add_zero];exact ⟨h.1.1,h.1.2 f (sg+1) (by omega)⟩
theorem may_cat {dp:Nat} {l:List Nd} (hd:dp<=20) (h:∀x∈l,PartA dp x/\cntN 4 x<=3) (hl:l.length≠1):MayA dp ⟨0,0,l⟩:=by
 refine ⟨hd,λf sg _ => ?_⟩;have hok:okH sg ⟨0,0,l⟩=true:=by simp [okH,sgs,signK,hasP,hl]
 cases f with
 | zero=>unfold okN;simp [hok]
 | succ f =>
  unfold okN;have e1:sgs sg 0=0:=by simp [sgs,signK]
  simp only [show ((0:Int)=1)=False by simp,if_false,hok,Bool.true_and,List.all_eq_true,Bool.and_eq_true,decide_eq_true_eq,e1];intro x hx;obtain ⟨hp,hc⟩:=h x hx;by_cases z:x.k=0\/x.k=2
  · have hb:brN x.k 0=1:=by
     unfold brN inBr;rcases z with z | z<;>simp [z]
    rw [hb];exact ⟨(hp.2 z).1,(hp.2 z).2 f 0 (by omega)⟩
  · have hb:brN x.k 0=0:=by
     unfold brN inBr;have z1:x.k≠0:=λe=>z (.inl e);have z2:x.k≠2:=λe=>z (.inr e);simp [z1,z2]
    rw [hb,Nat.add_zero];exact ⟨hp.1.1,hp.1.2 f 0 (by omega)⟩
theorem may_alt {dp:Nat} {l:List Nd} (hd:dp<=20) (h:∀x∈l,CatA dp x/\cntN 4 x<=3) (hl:2<=l.length):MayA dp ⟨2,0,l⟩:=by
 refine ⟨hd,λf sg _ => ?_⟩;have hok:okH sg ⟨2,0,l⟩=true:=by simp [okH,sgs,signK,hasP,hl]
 cases f with
 | zero=>unfold okN;simp [hok]
 | succ f =>
  unfold okN;have e1:sgs sg 2=0:=by simp [sgs,signK]
  simp only [show ((2:Int)=1)=False by simp,if_false,hok,Bool.true_and,List.all_eq_true,Bool.and_eq_true,decide_eq_true_eq,e1];intro x hx;obtain ⟨hp,hc⟩:=h x hx;by_cases z:x.k=2
  · have hb:brN x.k 2=1:=by
     unfold brN inBr;simp [z]
    rw [hb];exact ⟨(hp.2 z).1,(hp.2 z).2 f 0 (by omega)⟩
  · have hb:brN x.k 2=0:=by
     unfold brN inBr;simp [z]
    rw [hb,Nat.add_zero];exact ⟨hp.1.1,hp.1.2 f 0 (by omega)⟩
theorem idxS_lt:∀ {s:List Rg} {l:Sts} {i:Nat},idxS s l=some i->i<l.length
 | s,[],i,h=>by simp [idxS] at h
 | s,x::l,i,h=>by
  unfold idxS at h
  split at h
  · obtain rfl:0=i:=by simpa using h
    simp
  · rw [Option.map_eq_some_iff] at h;obtain ⟨j,hj,rfl⟩:=h;have:=idxS_lt hj;simp;omega
theorem place_met' {st st':Sts} {s:List Rg} {i:Nat} (h:placeM st s=some (i,st')):meetS st.length (i:Int)=some st'.length:=by
 unfold placeM at h
 split at h
 · rename_i j hj;obtain ⟨rfl,rfl⟩:j=i/\st=st':=by simpa using h
   have:=idxS_lt hj;unfold meetS;rw [if_neg (by omega),if_pos (by omega)]
 · split at h
   · cases h
   · obtain ⟨rfl,rfl⟩:st.length=i/\st++[s]=st':=by simpa using h
     unfold meetS;rw [if_pos rfl];simp
theorem metL_snoc {g:Nat->Nd->Option Nat}:∀ {l:List Nd} {m m1 m2:Nat} {x:Nd},metL g m l=some m1->g m1 x=some m2->metL g m (l++[x])=some m2
 | [],m,m1,m2,x,h,hx=>by
  obtain rfl:m=m1:=by simpa [metL] using h
  simp [metL,hx]
 | y::l,m,m1,m2,x,h,hx=>by
  unfold metL at h;rw [List.cons_append];unfold metL;cases q:g m y with
  | none=>rw [q] at h;cases h
  | some m'=>rw [q] at h;exact metL_snoc h hx
structure Got (Q:Nd->Prop) (h c:Nat) (ts:List Tok) (st:Sts) (n:Nd) (r:List Tok) (st':Sts):Prop where
 may:Q n
 cnt:cntN 4 n<=3
 met:∀f,h<=f->metN f st.length n=some st'.length
 ht:HtK h n.kids
 sz:∀f,Sz f n+1+2*r.length<=2*ts.length+c
def PGot (Q:Nd->Prop) (h c:Nat) (p:List Tok->Sts->NR Nd):Prop:=∀ts st n r st',p ts st = .inr (n,r,st')->Got Q h c ts st n r st'
theorem sz_zero (n:Nd):Sz 0 n=1:=rfl
theorem sz_le_one (f:Nat) (n:Nd) (h:n.kids=[]):Sz f n=1:=by cases f<;>simp [Sz,h]
theorem tail_len {ts:List Tok} (h:(hdT ts).k≠4):ts.tail.length+1=ts.length:=by
 have:=(leftS_tail h).1;cases ts with
 | nil=>simp at this
 | cons a l=>simp
theorem endN_inr {c:Int} {q:NR Nd} {n:Nd} {r:List Tok} {st':Sts} (h:endN c q = .inr (n,r,st')) :∃r0,q = .inr (n,r0,st')/\r=r0.tail/\r0.tail.length+1=r0.length:=by
 match q,h with
 | .inl e,h=>cases h
 | .inr (n0,r0,s0),h =>
  simp only [endN] at h
  split at h
  · rename_i hs;obtain ⟨rfl,rfl,rfl⟩:n0=n/\r0.tail=r/\s0=st':=by simpa using h
    exact ⟨r0,rfl,rfl,tail_len (sign_end hs)⟩
  · cases h
theorem part_got {N:Nms} {f:Option (List Tok->Sts->NR Nd)} {dp h:Nat} (hd:dp<=20) (hf:∀g,f=some g->PGot (MayA (dp+1)) h 3 g):PGot (PartA dp) h 0 (partM N f):=λts st n r st' e=>by
 unfold partM at e
 split at e
 · rename_i hs;have hl:=tail_len (sign_end hs);cases f with
   | none=>cases e
   | some g =>
    obtain ⟨r0,e0,rfl,hr⟩:=endN_inr e;have hg:=hf g rfl _ _ _ _ _ e0;exact ⟨hg.may.part,hg.cnt,hg.met,hg.ht,λf=>by have:=hg.sz f;omega⟩
 · split at e
   · cases e
   · rename_i s hs;have hl:=tail_len (setM_end hs)
     split at e
     · cases e
     · rename_i i st1 hp;obtain ⟨rfl,rfl,rfl⟩:(⟨1,(i:Int),[]⟩:Nd)=n/\ts.tail=r/\st1=st':=by simpa using e
       have hc:cntN 4 ⟨1,(i:Int),[]⟩=0:=cnt_plain rfl 4;refine ⟨⟨⟨hd,λf sg _=>okN_set rfl rfl⟩,λq=>by rcases q with q | q<;>simp at q⟩,by rw [hc];omega,λf _ => ?_,HtK.more (d:=0) rfl (Nat.zero_le _),λf => ?_⟩
       · have:metN f st.length ⟨1,(i:Int),[]⟩=meetS st.length (i:Int):=by cases f<;>simp [metN]
         rw [this];exact place_met' hp
       · rw [sz_le_one f _ rfl];omega
theorem signF_got {dp:Nat}:∀(f c:Nat) (n:Nd) (ts:List Tok) (st:Sts) {h m K:Nat} {n':Nd} {r:List Tok} {st':Sts},PartA dp n->cntN 4 n=c->c<=3->(∀f,h<=f->metN f m n=some st.length)->HtK h n.kids->(∀f,Sz f n+1+2*ts.length<=K) ->
 signF f c n ts st = .inr (n',r,st')->PartA dp n'/\cntN 4 n'<=3/\(∀f,h+(3-c)<=f->metN f m n'=some st'.length)/\HtK (h+(3-c)) n'.kids/\∀f,Sz f n'+1+2*r.length<=K
 | 0,c,n,ts,st,h,m,K,n',r,st',hp,hc,hc3,hm,hh,hz,e=>by
  obtain ⟨rfl,rfl,rfl⟩:n=n'/\ts=r/\st=st':=by simpa [signF] using e
  exact ⟨hp,by omega,λf hf=>hm f (by omega),hh.more (by omega),hz⟩
 | f+1,c,n,ts,st,h,m,K,n',r,st',hp,hc,hc3,hm,hh,hz,e=>by
  unfold signF at e
  split at e
  · obtain ⟨rfl,rfl,rfl⟩:n=n'/\ts=r/\st=st':=by simpa using e
    exact ⟨hp,by omega,λf hf=>hm f (by omega),hh.more (by omega),hz⟩
  · rename_i hk
    split at e
    · cases e
    · rename_i hc4;have hsk:signK (kindT (hdT ts))=true:=by
       unfold kindT at hk ⊢
       split
       · rfl
       · split
         · rfl
         · split
           · rfl
           · rename_i a b c;simp [a,b,c] at hk
      have hl:=tail_len (kindT_end hk);have hc':cntN 4 ⟨kindT (hdT ts),0,[n]⟩=c+1:=by
       rw [cnt_sign hsk,cnt_fuel (f:=3) (show cntN 4 n<=3 by omega),hc]
      have hne:=signK_ne hsk;have ih:=signF_got f (c+1) ⟨kindT (hdT ts),0,[n]⟩ ts.tail st (h:=h+1) (m:=m) (K:=K) (hp.sign hsk (by omega)) hc' (by omega) (λf hf=>by
       obtain ⟨f',rfl⟩ :∃f',f=f'+1:=⟨f-1,by omega⟩;have:=hm f' (by omega);simp [metN,hne.2.1,metL,this]) (λx hx=>by
       obtain rfl:x=n:=by simpa using hx
       exact hh) (λf=>by
       cases f with
       | zero=>have:=hz 0;rw [sz_zero] at this ⊢;omega
       | succ f=>have:=hz f;simp [Sz];omega) e
      have e1:h+1+(3-(c+1))=h+(3-c):=by omega
      rw [e1] at ih;exact ih
theorem signed_got {dp h:Nat} {p:List Tok->Sts->NR Nd} (hp:PGot (PartA dp) h 0 p):PGot (PartA dp) (h+3) 0 (signedM p):=λts st n r st' e=>by
 unfold signedM at e
 split at e
 · cases e
 · rename_i n0 r0 s0 h0;have hg:=hp _ _ _ _ _ h0;have:=signF_got 4 (cntN 4 n0) n0 r0 s0 (K:=2*ts.length) hg.may rfl hg.cnt hg.met hg.ht (λf=>by have:=hg.sz f;omega) e;exact ⟨this.1,this.2.1,λf hf=>this.2.2.1 f (by omega),this.2.2.2.1.more (by omega),λf=>by have:=this.2.2.2.2 f;omega⟩
structure GotL (Q:Nd->Prop) (h m K:Nat) (l:List Nd) (r:List Tok) (st':Sts):Prop where
 may:∀x∈l,Q x/\cntN 4 x<=3
 met:∀f,h<=f->metL (metN f) m l=some st'.length
 ht:∀x∈l,HtK h x.kids
 sz:∀f,(l.map (Sz f)).sum+l.length+2*r.length<=K
theorem GotL.snoc {Q:Nd->Prop} {h m K c:Nat} {l:List Nd} {ts r:List Tok} {st st':Sts} {n:Nd} (g:GotL Q h m K l ts st) {ts':List Tok} (k:Got Q h c ts' st n r st') (hc:2*ts'.length+c<=2*ts.length):GotL Q h m K (l++[n]) r st' where
 may:=λx hx=>by
  rcases List.mem_append.1 hx with q | q
  · exact g.may x q
  · rw [List.mem_singleton.1 q];exact ⟨k.may,k.cnt⟩
 met:=λf hf=>metL_snoc (g.met f hf) (k.met f hf)
 ht:=λx hx=>by
  rcases List.mem_append.1 hx with q | q
  · exact g.ht x q
  · rw [List.mem_singleton.1 q];exact k.ht
 sz:=λf=>by
  have h1:=g.sz f;have h2:=k.sz f;rw [List.map_append,List.sum_append,List.length_append];simp;omega
theorem catF_got {Q:Nd->Prop} {h:Nat} {p:List Tok->Sts->NR Nd} (hp:PGot Q h 0 p):∀(f:Nat) (acc:List Nd) (ts:List Tok) (st:Sts) {m K:Nat} {l:List Nd} {r:List Tok} {st':Sts},GotL Q h m K acc ts st->catF p f acc ts st = .inr (l,r,st')->GotL Q h m K l r st'
 | 0,acc,ts,st,m,K,l,r,st',g,e=>by
  obtain ⟨rfl,rfl,rfl⟩:acc=l/\ts=r/\st=st':=by simpa [catF] using e
  exact g
 | f+1,acc,ts,st,m,K,l,r,st',g,e=>by
  unfold catF at e
  split at e
  · split at e
    · cases e
    · rename_i n r0 s0 h0;exact catF_got hp f _ _ _ (g.snoc (hp _ _ _ _ _ h0) (by omega)) e
  · obtain ⟨rfl,rfl,rfl⟩:acc=l/\ts=r/\st=st':=by simpa using e
    exact g
theorem altF_got {Q:Nd->Prop} {h:Nat} {p:List Tok->Sts->NR Nd} (hp:PGot Q h 2 p):∀(f:Nat) (acc:List Nd) (ts:List Tok) (st:Sts) {m K:Nat} {l:List Nd} {r:List Tok} {st':Sts},GotL Q h m K acc ts st->altF p f acc ts st = .inr (l,r,st')->GotL Q h m K l r st'/\acc.length<=l.length
 | 0,acc,ts,st,m,K,l,r,st',g,e=>by
  obtain ⟨rfl,rfl,rfl⟩:acc=l/\ts=r/\st=st':=by simpa [altF] using e
  exact ⟨g,Nat.le_refl _⟩
 | f+1,acc,ts,st,m,K,l,r,st',g,e=>by
  unfold altF at e
  split at e
  · rename_i hs;have hl:=tail_len (sign_end hs)
    split at e
    · cases e
    · rename_i n r0 s0 h0;obtain ⟨h1,h2⟩:=altF_got hp f _ _ _ (g.snoc (hp _ _ _ _ _ h0) (by omega)) e;exact ⟨h1,by simp at h2;omega⟩
  · obtain ⟨rfl,rfl,rfl⟩:acc=l/\ts=r/\st=st':=by simpa using e
    exact ⟨g,Nat.le_refl _⟩
theorem join_one (k:Int) (x:Nd):joinN k [x]=x:=rfl
theorem join_more {k:Int} {l:List Nd} (h:l.length≠1):joinN k l=⟨k,0,l⟩:=by
 match l,h with
 | [],_=>rfl
 | [x],h=>simp at h
 | x::y::l,_=>rfl
theorem met_node {f m m':Nat} {k:Int} {l:List Nd} (hk:k≠1) (h:metL (metN f) m l=some m'):metN (f+1) m ⟨k,0,l⟩=some m':=by
 simp [metN,hk,h]
theorem cat_got {dp h:Nat} (hd:dp<=20) {p:List Tok->Sts->NR Nd} (hp:PGot (PartA dp) h 0 p):PGot (CatA dp) (h+1) 2 (catM p):=λts st n r st' e=>by
 unfold catM at e
 split at e
 · cases e
 · rename_i l r0 s0 h0;obtain ⟨rfl,rfl,rfl⟩:joinN 0 l=n/\r0=r/\s0=st':=by simpa using e
   have g:=catF_got hp _ _ _ _ (m:=st.length) (K:=2*ts.length) ⟨λx hx=>(by cases hx),λf _=>rfl,λx hx=>(by cases hx),λf=>by simp⟩ h0;by_cases q:l.length=1
   · obtain ⟨x,rfl⟩ :∃x,l=[x]:=by
      match l,q with
      | [x],_=>exact ⟨x,rfl⟩
     rw [join_one];refine ⟨(g.may x (by simp)).1.cat,(g.may x (by simp)).2,λf hf => ?_,(g.ht x (by simp)).up,λf=>by have:=g.sz f;simp at this;omega⟩;have:=g.met f (by omega);simp only [metL] at this
     split at this
     · cases this
     · rename_i m' hm';rw [hm'];exact this
   · rw [join_more q];refine ⟨⟨may_cat hd g.may q,λz=>by simp at z⟩,by rw [cnt_plain rfl 4];omega,λf hf => ?_,λx hx=>g.ht x hx,λf => ?_⟩
     · obtain ⟨f',rfl⟩ :∃f',f=f'+1:=⟨f-1,by omega⟩;exact met_node (by decide) (g.met f' (by omega))
     · cases f with
       | zero=>have:=g.sz 0;rw [sz_zero];omega
       | succ f=>have:=g.sz f;simp [Sz];omega
theorem regexG_got {dp h:Nat} (hd:dp<=20) {p:List Tok->Sts->NR Nd} (hp:PGot (CatA dp) h 2 p):PGot (MayA dp) (h+1) 3 (regexG p):=λts st n r st' e=>by
 unfold regexG at e
 split at e
 · cases e
 · rename_i n0 r0 s0 h0;have hg:=hp _ _ _ _ _ h0
   split at e
   · cases e
   · rename_i l r1 s1 h1;obtain ⟨rfl,rfl,rfl⟩:joinN 2 l=n/\r1=r/\s1=st':=by simpa using e
     obtain ⟨g,hl⟩:=altF_got hp _ _ _ _ (m:=st.length) (K:=2*ts.length+2) ⟨(λx hx=>by rw [List.mem_singleton.1 hx];exact ⟨hg.may,hg.cnt⟩),(λf hf=>by simp [metL,hg.met f hf]),(λx hx=>by rw [List.mem_singleton.1 hx];exact hg.ht),(λf=>by have:=hg.sz f;simp;omega)⟩ h1;by_cases q:l.length=1
     · obtain ⟨x,rfl⟩ :∃x,l=[x]:=by
        match l,q with
        | [x],_=>exact ⟨x,rfl⟩
       rw [join_one];refine ⟨(g.may x (by simp)).1.1,(g.may x (by simp)).2,λf hf => ?_,(g.ht x (by simp)).up,λf=>by have:=g.sz f;simp at this;omega⟩;have:=g.met f (by omega);simp only [metL] at this
       split at this
       · cases this
       · rename_i m' hm';rw [hm'];exact this
     · rw [join_more q];simp at hl;refine ⟨may_alt hd g.may (by omega),by rw [cnt_plain rfl 4];omega,λf hf => ?_,λx hx=>g.ht x hx,λf => ?_⟩
       · obtain ⟨f',rfl⟩ :∃f',f=f'+1:=⟨f-1,by omega⟩;exact met_node (by decide) (g.met f' (by omega))
       · cases f with
         | zero=>have:=g.sz 0;rw [sz_zero];omega
         | succ f=>have:=g.sz f;simp [Sz];omega
theorem regex_got (N:Nms):∀(b:Nat),b<=20->PGot (MayA (20-b)) (5*(b+1)) 3 (regexM N b)
 | 0,_=>by
  have h:=regexG_got (by omega) (cat_got (by omega) (signed_got (part_got (N:=N) (f:=none) (dp:=20) (h:=0) (by omega) (λg e=>by cases e))));intro ts st n r st' e;exact h ts st n r st' e
 | b+1,hb=>by
  have ih:=regex_got N b (by omega);have e1:20-b=20-(b+1)+1:=by omega
  rw [e1] at ih;have h:=regexG_got (by omega) (cat_got (by omega) (signed_got (part_got (N:=N) (f:=some (regexM N b)) (dp:=20-(b+1)) (h:=5*(b+1)) (by omega) (λg e=>by cases e;exact ih))));intro ts st n r st' e;have hg:=h ts st n r st' e;have e2:5*(b+1)+3+1+1=5*(b+1+1):=by omega
  rw [e2] at hg;exact hg
def TkA (E:List Int) (ts:List Tok):Prop:=∀t∈ts,GS E t.s
def NmsA (E:List Int) (N:Nms):Prop:=∀x s,N x=some s->GS E s
theorem TkA.hd {E:List Int} {ts:List Tok} (h:TkA E ts):GS E (hdT ts).s:=by
 cases ts with
 | nil=>exact GS.nil E
 | cons t l=>exact h t (by simp)
theorem TkA.sub {E:List Int} {ts r:List Tok} (h:TkA E ts) (k:∀t∈r,t∈ts):TkA E r:=λt ht=>h t (k t ht)
theorem TkA.tail {E:List Int} {ts:List Tok} (h:TkA E ts):TkA E ts.tail:=h.sub (λt ht=>List.mem_of_mem_tail ht)
theorem setM_a {E:List Int} {N:Nms} {t:Tok} {s:List Rg} (ht:GS E t.s) (hN:NmsA E N) (h:setM N t = .inr s):GS E s:=by
 unfold setM at h
 split at h
 · cases h;exact ht
 · split at h
   · cases h;exact GS.all E
   · split at h
     · split at h
       · rename_i s1 h1;cases h;exact hN _ _ h1
       · cases h
     · cases h
def QrA (E:List Int) (f:List Tok->QR):Prop:=∀ts s r,TkA E ts->f ts = .inr (s,r)->GS E s/\∀t∈r,t∈ts
theorem sumF_a {E:List Int} {f:List Tok->QR} (hf:QrA E f):∀(n:Nat) (acc:List Rg) (ts:List Tok) (s:List Rg) (r:List Tok),TkA E ts->GS E acc->sumF f n acc ts = .inr (s,r)->GS E s/\∀t∈r,t∈ts
 | 0,acc,ts,s,r,ht,ha,h=>by
  obtain ⟨rfl,rfl⟩:acc=s/\ts=r:=by simpa [sumF] using h
  exact ⟨ha,λ_ h=>h⟩
 | n+1,acc,ts,s,r,ht,ha,h=>by
  unfold sumF at h
  split at h
  · obtain ⟨rfl,rfl⟩:acc=s/\ts=r:=by simpa using h
    exact ⟨ha,λ_ h=>h⟩
  · rename_i op hop
    split at h
    · cases h
    · rename_i s1 r1 h1;obtain ⟨g1,g2⟩:=hf _ _ _ ht.tail h1;have hg:GS E (op acc s1):=by
       unfold opOf at hop
       split at hop
       · cases hop;exact stb_pick ha g1
       · split at hop
         · cases hop;exact stb_pick ha g1
         · split at hop
           · cases hop;exact stb_pick ha g1
           · cases hop
      obtain ⟨k1,k2⟩:=sumF_a hf n _ r1 s r (ht.tail.sub g2) hg h;exact ⟨k1,λt q=>List.mem_of_mem_tail (g2 t (k2 t q))⟩
theorem sumG_a {E:List Int} {f:List Tok->QR} (hf:QrA E f):QrA E (sumG f):=λts s r ht h=>by
 unfold sumG at h
 split at h
 · cases h
 · rename_i s1 r1 h1;obtain ⟨g1,g2⟩:=hf _ _ _ ht h1;obtain ⟨k1,k2⟩:=sumF_a hf _ _ r1 s r (ht.sub g2) g1 h;exact ⟨k1,λt q=>g2 t (k2 t q)⟩
theorem endQ_inr {c:Int} {q:QR} {s:List Rg} {r:List Tok} (h:endQ c q = .inr (s,r)) :∃r0,q = .inr (s,r0)/\r=r0.tail:=by
 match q,h with
 | .inl e,h=>cases h
 | .inr (s0,r0),h =>
  simp only [endQ] at h
  split at h
  · obtain ⟨rfl,rfl⟩:s0=s/\r0.tail=r:=by simpa using h
    exact ⟨r0,rfl,rfl⟩
  · cases h
theorem termG_a {E:List Int} {N:Nms} (hN:NmsA E N) {f:Option (List Tok->QR)} (hf:∀g,f=some g->QrA E g):QrA E (termG N f):=λts s r ht h=>by
 unfold termG at h
 split at h
 · cases f with
   | none=>cases h
   | some g =>
    simp only at h
    match e:g ts.tail,h with
    | .inl x,h=>cases h
    | .inr (s0,r0),h =>
     obtain ⟨rfl,rfl⟩:notS s0=s/\r0=r:=by simpa [notQ] using h
     obtain ⟨g1,g2⟩:=hf g rfl _ _ _ ht.tail e;exact ⟨stb_pick g1 (GS.nil E),λt q=>List.mem_of_mem_tail (g2 t q)⟩
 · split at h
   · cases f with
     | none=>cases h
     | some g =>
      obtain ⟨r0,e0,rfl⟩:=endQ_inr h;obtain ⟨g1,g2⟩:=sumG_a (hf g rfl) _ _ _ ht.tail e0;exact ⟨g1,λt q=>List.mem_of_mem_tail (g2 t (List.mem_of_mem_tail q))⟩
   · split at h
     · cases h
     · rename_i s1 h1;obtain ⟨rfl,rfl⟩:s1=s/\ts.tail=r:=by simpa using h
       exact ⟨setM_a ht.hd hN h1,λt q=>List.mem_of_mem_tail q⟩
theorem termM_a {E:List Int} {N:Nms} (hN:NmsA E N):∀b,QrA E (termM N b)
 | 0=>termG_a hN (λg h=>by cases h)
 | b+1=>termG_a hN (λg h=>by cases h;exact termM_a hN b)
theorem sumM_a {E:List Int} {N:Nms} (hN:NmsA E N) (b:Nat):QrA E (sumM N b):=sumG_a (termM_a hN b)
def StA (E:List Int) (st:Sts):Prop:=(∀s∈st,GS E s)/\st.Nodup/\st.length<=60
theorem idxS_no:∀ {s:List Rg} {l:Sts},idxS s l=none->s ∉ l
 | s,[],h=>by simp
 | s,x::l,h=>by
  unfold idxS at h
  split at h
  · cases h
  · rename_i hx;have h2:idxS s l=none:=by simpa using h
    have h3:=idxS_no h2;intro q;rcases List.mem_cons.1 q with q | q
    · exact hx (sameS_iff.2 q.symm)
    · exact h3 q
theorem placeM_a {E:List Int} {st st':Sts} {s:List Rg} {i:Nat} (hs:GS E s) (h:StA E st) (e:placeM st s=some (i,st')):StA E st':=by
 unfold placeM at e
 split at e
 · obtain ⟨_,rfl⟩:_/\st=st':=by simpa using e
   exact h
 · rename_i hi
   split at e
   · cases e
   · rename_i hl;obtain ⟨_,rfl⟩:_/\st++[s]=st':=by simpa using e
     refine ⟨λx hx => ?_,?_,?_⟩
     · rcases List.mem_append.1 hx with q | q
       · exact h.1 x q
       · rw [List.mem_singleton.1 q];exact hs
     · rw [List.nodup_append];refine ⟨h.2.1,by simp,λa ha b hb => ?_⟩;rw [List.mem_singleton.1 hb];exact λq=>idxS_no hi (q ▸ ha)
     · have:=h.2.2;simp;omega
def PA {α:Type} (E:List Int) (p:List Tok->Sts->NR α):Prop:=∀ts st n r st',TkA E ts->StA E st->p ts st = .inr (n,r,st')->StA E st'/\∀t∈r,t∈ts
theorem partM_a {E:List Int} {N:Nms} (hN:NmsA E N) {f:Option (List Tok->Sts->NR Nd)} (hf:∀g,f=some g->PA E g):PA E (partM N f):=λts st n r st' ht hs h=>by
 unfold partM at h
 split at h
 · cases f with
   | none=>cases h
   | some g =>
    obtain ⟨r0,e0,rfl,_⟩:=endN_inr h;obtain ⟨g1,g2⟩:=hf g rfl _ _ _ _ _ ht.tail hs e0;exact ⟨g1,λt q=>List.mem_of_mem_tail (g2 t (List.mem_of_mem_tail q))⟩
 · split at h
   · cases h
   · rename_i s1 h1
     split at h
     · cases h
     · rename_i i st1 h2;obtain ⟨_,rfl,rfl⟩:_/\ts.tail=r/\st1=st':=by simpa using h
       exact ⟨placeM_a (setM_a ht.hd hN h1) hs h2,λt q=>List.mem_of_mem_tail q⟩
theorem signF_a:∀(f c:Nat) (n:Nd) (ts:List Tok) (st:Sts) {n':Nd} {r:List Tok} {st':Sts},signF f c n ts st = .inr (n',r,st')->st'=st/\∀t∈r,t∈ts
 | 0,c,n,ts,st,n',r,st',h=>by
  obtain ⟨_,rfl,rfl⟩:n=n'/\ts=r/\st=st':=by simpa [signF] using h
  exact ⟨rfl,λ_ h=>h⟩
 | f+1,c,n,ts,st,n',r,st',h=>by
  unfold signF at h
  split at h
  · obtain ⟨_,rfl,rfl⟩:n=n'/\ts=r/\st=st':=by simpa using h
    exact ⟨rfl,λ_ h=>h⟩
  · split at h
    · cases h
    · obtain ⟨h1,h2⟩:=signF_a f _ _ _ _ h;exact ⟨h1,λt q=>List.mem_of_mem_tail (h2 t q)⟩
theorem signedM_a {E:List Int} {p:List Tok->Sts->NR Nd} (hp:PA E p):PA E (signedM p):=λts st n r st' ht hs h=>by
 unfold signedM at h
 split at h
 · cases h
 · rename_i n1 r1 st1 h1;obtain ⟨g1,g2⟩:=hp _ _ _ _ _ ht hs h1;obtain ⟨rfl,k2⟩:=signF_a _ _ _ _ _ h;exact ⟨g1,λt q=>g2 t (k2 t q)⟩
theorem catF_a {E:List Int} {p:List Tok->Sts->NR Nd} (hp:PA E p):∀(f:Nat) (acc:List Nd),PA E (catF p f acc)
 | 0,acc,ts,st,n,r,st',ht,hs,h=>by
  obtain ⟨_,rfl,rfl⟩:acc=n/\ts=r/\st=st':=by simpa [catF] using h
  exact ⟨hs,λ_ h=>h⟩
 | f+1,acc,ts,st,n,r,st',ht,hs,h=>by
  unfold catF at h
  split at h
  · split at h
    · cases h
    · rename_i n1 r1 st1 h1;obtain ⟨g1,g2⟩:=hp _ _ _ _ _ ht hs h1;obtain ⟨k1,k2⟩:=catF_a hp f _ _ _ _ _ _ (ht.sub g2) g1 h;exact ⟨k1,λt q=>g2 t (k2 t q)⟩
  · obtain ⟨_,rfl,rfl⟩:acc=n/\ts=r/\st=st':=by simpa using h
    exact ⟨hs,λ_ h=>h⟩
theorem catM_a {E:List Int} {p:List Tok->Sts->NR Nd} (hp:PA E p):PA E (catM p):=λts st n r st' ht hs h=>by
 unfold catM at h
 split at h
 · cases h
 · rename_i l r1 st1 h1;obtain ⟨_,rfl,rfl⟩:joinN 0 l=n/\r1=r/\st1=st':=by simpa using h
   exact catF_a hp _ _ _ _ _ _ _ ht hs h1
theorem altF_a {E:List Int} {p:List Tok->Sts->NR Nd} (hp:PA E p):∀(f:Nat) (acc:List Nd),PA E (altF p f acc)
 | 0,acc,ts,st,n,r,st',ht,hs,h=>by
  obtain ⟨_,rfl,rfl⟩:acc=n/\ts=r/\st=st':=by simpa [altF] using h
  exact ⟨hs,λ_ h=>h⟩
 | f+1,acc,ts,st,n,r,st',ht,hs,h=>by
  unfold altF at h
  split at h
  · split at h
    · cases h
    · rename_i n1 r1 st1 h1;obtain ⟨g1,g2⟩:=hp _ _ _ _ _ ht.tail hs h1;obtain ⟨k1,k2⟩:=altF_a hp f _ _ _ _ _ _ (ht.tail.sub g2) g1 h;exact ⟨k1,λt q=>List.mem_of_mem_tail (g2 t (k2 t q))⟩
  · obtain ⟨_,rfl,rfl⟩:acc=n/\ts=r/\st=st':=by simpa using h
    exact ⟨hs,λ_ h=>h⟩
theorem regexG_a {E:List Int} {p:List Tok->Sts->NR Nd} (hp:PA E p):PA E (regexG p):=λts st n r st' ht hs h=>by
 unfold regexG at h
 split at h
 · cases h
 · rename_i n1 r1 st1 h1;obtain ⟨g1,g2⟩:=hp _ _ _ _ _ ht hs h1
   split at h
   · cases h
   · rename_i l r2 st2 h2;obtain ⟨_,rfl,rfl⟩:joinN 2 l=n/\r2=r/\st2=st':=by simpa using h
     obtain ⟨k1,k2⟩:=altF_a hp _ _ _ _ _ _ _ (ht.sub g2) g1 h2;exact ⟨k1,λt q=>g2 t (k2 t q)⟩
theorem regexM_a {E:List Int} {N:Nms} (hN:NmsA E N):∀b,PA E (regexM N b)
 | 0=>λts st n r st'=>regexG_a (catM_a (signedM_a (partM_a hN (λg h=>by cases h)))) ts st n r st'
 | b+1=>λts st n r st'=>regexG_a (catM_a (signedM_a (partM_a hN (λg h=>by cases h;exact regexM_a hN b)))) ts st n r st'
def mayRf (f:Nat):Nat->List Rl->Option Nat
 | m,[]=>some m
 | m,x::l=>match mayN f 0 0 m x.l with
  | none=>none
  | some m1=>match mayN f 0 0 m1 x.r with
   | none=>none
   | some m2=>mayRf f m2 l
theorem mayRf_snoc {f:Nat}:∀ {l:List Rl} {m m1 m2 m3:Nat} {x:Rl},mayRf f m l=some m1->mayN f 0 0 m1 x.l=some m2->mayN f 0 0 m2 x.r=some m3->mayRf f m (l++[x])=some m3
 | [],m,m1,m2,m3,x,h,h1,h2=>by
  obtain rfl:m=m1:=by simpa [mayRf] using h
  simp [mayRf,h1,h2]
 | y::l,m,m1,m2,m3,x,h,h1,h2=>by
  rw [List.cons_append];unfold mayRf at h ⊢
  split at h
  · cases h
  · split at h
    · cases h
    · exact mayRf_snoc h h1 h2
def NdA (K:Nat) (n:Nd):Prop:=HtK 105 n.kids/\∀f,Sz f n<=K
theorem got_may {ts r:List Tok} {st st':Sts} {n:Nd} (h:Got (MayA 0) 105 3 ts st n r st') {f:Nat} (hf:105<=f):mayN f 0 0 st.length n=some st'.length:=by
 unfold mayN;rw [if_pos (h.may.2 f 0 (by have:=h.cnt;omega)),h.met f hf]
theorem ruleM_a {E:List Int} {N:Nms} (hN:NmsA E N) {ts:List Tok} {st:Sts} {x:Rl} {r:List Tok} {st':Sts} (ht:TkA E ts) (hs:StA E st) (h:ruleM N ts st = .inr (x,r,st')) {f K:Nat} (hf:105<=f) (hK:2*ts.length+2<=K) :
 StA E st'/\(∀t∈r,t∈ts)/\NdA K x.l/\NdA K x.r/\∃m,mayN f 0 0 st.length x.l=some m/\mayN f 0 0 m x.r=some st'.length:=by
 have htl:ts.tail.length<=ts.length:=by simp
 unfold ruleM at h
 split at h
 · cases h
 · rename_i l r1 st1 he;obtain ⟨r0,e0,rfl,hr0⟩:=endN_inr he;obtain ⟨a1,a2⟩:=regexM_a hN 20 _ _ _ _ _ ht.tail hs e0;have g1:=regex_got N 20 (by omega) _ _ _ _ _ e0;have a3:∀t∈r0.tail,t∈ts:=λt q=>List.mem_of_mem_tail (a2 t (List.mem_of_mem_tail q))
   split at h
   · cases h
   · rename_i n r2 st2 he2;obtain ⟨r3,e3,rfl,hr3⟩:=endN_inr he2;obtain ⟨b1,b2⟩:=regexM_a hN 20 _ _ _ _ _ (ht.sub a3) a1 e3;have g2:=regex_got N 20 (by omega) _ _ _ _ _ e3;obtain ⟨rfl,rfl,rfl⟩:(⟨tkWord wBreak (hdT ts),l,n⟩:Rl)=x/\r3.tail=r/\st2=st':=by simpa using h
     refine ⟨b1,λt q=>a3 t (b2 t (List.mem_of_mem_tail q)),⟨g1.ht,λf => ?_⟩,⟨g2.ht,λf => ?_⟩,st1.length,got_may g1 hf,got_may g2 hf⟩
     · have:=g1.sz f;show Sz f l<=K;omega
     · have h1:=g1.sz 0;have h2:=g2.sz f;show Sz f n<=K;omega
theorem nameM_a {E:List Int} {N N':Nms} (hN:NmsA E N) {ts r:List Tok} (ht:TkA E ts) (h:nameM N ts = .inr (N',r)):NmsA E N'/\∀t∈r,t∈ts:=by
 unfold nameM at h
 split at h
 · cases h
 · split at h
   · cases h
   · split at h
     · cases h
     · split at h
       · cases h
       · rename_i s r1 h1;obtain ⟨rfl,rfl⟩:giveN N (hdT ts).t s=N'/\r1=r:=by simpa using h
         obtain ⟨r0,e0,rfl⟩:=endQ_inr h1;obtain ⟨g1,g2⟩:=sumM_a hN 20 _ _ _ ht.tail.tail e0;refine ⟨λy s' hy => ?_,λt q=>List.mem_of_mem_tail (List.mem_of_mem_tail (g2 t (List.mem_of_mem_tail q)))⟩;unfold giveN at hy
         split at hy
         · cases hy;exact g1
         · exact hN _ _ hy
structure PrgA (E:List Int) (f K:Nat) (rl:List Rl) (st:Sts):Prop where
 sts:StA E st
 few:rl.length<=64
 may:mayRf f 0 rl=some st.length
 nds:∀x∈rl,NdA K x.l/\NdA K x.r
theorem textF_a {E:List Int} {f0 K:Nat} (hf:105<=f0):∀(f:Nat) (N:Nms) (rs:List Rl) (ts:List Tok) (st:Sts) {rs':List Rl} {st':Sts},2*ts.length+2<=K->TkA E ts->NmsA E N->PrgA E f0 K rs st->textF f N rs ts st = .inr (rs',st')->PrgA E f0 K rs' st'
 | 0,N,rs,ts,st,rs',st',hl,ht,hN,ha,h=>by
  obtain ⟨rfl,rfl⟩:rs=rs'/\st=st':=by simpa [textF] using h
  exact ha
 | f+1,N,rs,ts,st,rs',st',hl,ht,hN,ha,h=>by
  have htl:ts.tail.length<=ts.length:=by simp
  unfold textF at h
  split at h
  · obtain ⟨rfl,rfl⟩:rs=rs'/\st=st':=by simpa using h
    exact ha
  · rename_i hk
    split at h
    · split at h
      · cases h
      · rename_i N' r hn;obtain ⟨g1,g2⟩:=nameM_a hN ht.tail hn;have:=nameM_left hn;exact textF_a hf f N' rs r st (by omega) (ht.tail.sub g2) g1 ha h
    · split at h
      · cases h
      · split at h
        · cases h
        · rename_i h64
          split at h
          · cases h
          · rename_i x r st1 hn;have h1:=ruleM_left hk hn;obtain ⟨g1,g2,g3,g4,m,g5,g6⟩:=ruleM_a hN ht ha.sts hn hf hl;refine textF_a hf f N (rs++[x]) r st1 (by omega) (ht.sub g2) hN ⟨g1,by have:=ha.few;simp;omega,mayRf_snoc ha.may g5 g6,λy hy => ?_⟩ h;rcases List.mem_append.1 hy with q | q
            · exact ha.nds y q
            · rw [List.mem_singleton.1 q];exact ⟨g3,g4⟩
theorem isSetB_of {s:List Rg} (h:IsSet s):isSetB s=true:=by
 have h1:mkS s=s:=by
  have hu:Upto (λx=>hasR s x) (mkS s) 1114112:=pick_spec s [] h.fits (λx hx=>(by cases hx)) (λx _=>x);exact hu.unique h.upto
 unfold isSetB;rw [h1,Bool.and_eq_true];refine ⟨List.all_eq_true.2 λr hr => ?_,sameS_iff.2 rfl⟩;have:=h.fits r hr;exact decide_eq_true ⟨this.1,this.2.1,by omega⟩
theorem setsF_of {st:Sts} (h1:∀s∈st,isSetB s=true) (h2:st.Nodup):∀k,setsF k st=true
 | 0=>rfl
 | k+1=>by
  unfold setsF;rw [setsF_of h1 h2 k,Bool.true_and]
  split
  · rfl
  · rename_i s hs;obtain ⟨hk,rfl⟩:=List.getElem?_eq_some_iff.1 hs;rw [h1 _ (List.getElem_mem hk),Bool.true_and,Bool.not_eq_true',List.any_eq_false];intro x hx q;have q2:=sameS_iff.1 q;obtain ⟨i,hi,rfl⟩:=List.mem_take_iff_getElem.1 hx;exact List.pairwise_iff_getElem.1 h2 i k (by omega) hk (by omega) q2
theorem PrgA.sets {E:List Int} {f K:Nat} {rl:List Rl} {st:Sts} (h:PrgA E f K rl st):setsF st.length st=true:=setsF_of (λs hs=>isSetB_of (h.sts.1 s hs).1) h.sts.2.1 _
theorem parseL_a {ts:List Tok} (hfit:∀t∈ts,Fits t.s) {f K:Nat} (hf:105<=f) (hK:2*ts.length+2<=K) {rl:List Rl} {st:Sts} (h:parseL (.inr ts) = .inr (rl,st)):PrgA (edgesOf (entsOf ts)) f K rl st:=by
 unfold parseL at h;simp only at h
 split at h
 · cases h
 · rename_i x hx;obtain ⟨rs',st'⟩:=x;obtain ⟨rfl,rfl⟩:rs'=rl/\st'=st:=by simpa using h
   refine textF_a hf _ _ _ _ _ (by simpa using hK) (λt ht => ?_) (λx s h=>by cases h) ⟨⟨λs hs=>(by cases hs),List.nodup_nil,by simp⟩,by simp,rfl,λx hx=>(by cases hx)⟩ hx;obtain ⟨u,hu,rfl⟩:=List.mem_map.1 ht;exact stb_mk (hfit u hu) (λr hr=>List.mem_flatMap.2 ⟨u,hu,hr⟩)
theorem PrgA.len {E:List Int} {f K:Nat} {rl:List Rl} {st:Sts} (h:PrgA E f K rl st):∀s∈st,s.length<=E.length+1:=λs hs=>stb_len (h.sts.1 s hs).1 (h.sts.1 s hs).2
end Go.Proofs.YtfdjchnckjgapaaGreatDoor
