/-
  AgP AscM JnM
-/
import Derived.Test.YtfdjchnckjgapaaGreatDoorZ50
import Derived.Test.YtfdjchnckjgapaaGreatDoorZ49
import Derived.Test.YtfdjchnckjgapaaGreatDoorZ38
import Derived.Test.YtfdjchnckjgapaaGreatDoorZ10
namespace Go.Proofs.YtfdjchnckjgapaaGreatDoor
open Go.RowKit Go.Shelf S1
set_option linter.unusedVariables false
theorem dp_of {K:Nat} (hK:K<=3099):∀ {d:Nat} {n:Nd},HtK d n.kids->(∀f,Sz f n<=K)->Dp d n.kids
 | 0,n,h,_=>h
 | d+1,n,h,hz=>by
  have hlen:∀(l:List Nd) (g:Nd->Nat),(∀x∈l,1<=g x)->l.length<=(l.map g).sum:=λl g=>by
   induction l with
   | nil=>intro _;simp
   | cons x l ih =>
    intro hx;have h1:=hx x (by simp);have h2:=ih (λy hy=>hx y (by simp [hy]));simp only [List.length_cons,List.map_cons,List.sum_cons];omega
  have hone:∀(f:Nat) (x:Nd),1<=Sz f x:=λf x=>by
   cases f with
   | zero=>exact Nat.le_refl _
   | succ f=>show 1<=1+_;omega
  refine ⟨?_,λx hx=>dp_of hK (h x hx) (λf => ?_)⟩
  · have h1:=hz 1;have h2:=hlen n.kids (Sz 0) (λx _=>hone 0 x);have h3:Sz 1 n=1+(n.kids.map (Sz 0)).sum:=rfl;omega
  · have h1:=hz (f+1);have h3:Sz (f+1) n=1+(n.kids.map (Sz f)).sum:=rfl;have h4:Sz f x<=(n.kids.map (Sz f)).sum:=by
     have:∀(l:List Nd),x∈l->Sz f x<=(l.map (Sz f)).sum:=λl=>by
      induction l with
      | nil=>intro q;cases q
      | cons y l ih =>
       intro q;simp only [List.map_cons,List.sum_cons];rcases List.mem_cons.1 q with q | q
       · subst q;omega
       · have:=ih q;omega
     exact this _ hx
    omega
theorem mayRf_eq:∀(m:Nat) (l:List Rl),mayRf 120 m l=mayR m l
 | m,[]=>rfl
 | m,x::l=>by
  unfold mayRf mayR;cases mayN 120 0 0 m x.l with
  | none=>rfl
  | some m1 =>
   simp only;cases mayN 120 0 0 m1 x.r with
   | none=>rfl
   | some m2=>exact mayRf_eq m2 l
theorem PrgA.few_ok {E:List Int} {K:Nat} {rl:List Rl} {st:Sts} (h:PrgA E 120 K rl st) (hK:K<=3099) (hE:E.length<=3099):FewOk st rl:=by
 have key:∀ {n:Nd},NdA K n->Dp 120 n.kids/\Sz 120 n<3100:=fun {n} hn=>⟨dp_of hK (hn.1.more (by omega)) hn.2,by have:=hn.2 120;omega⟩
 refine ⟨by have:=h.sts.2.2;omega,by have:=h.few;omega,λs hs=>by have:=h.len s hs;omega,λx hx=>⟨key (h.nds x hx).1,key (h.nds x hx).2⟩⟩
theorem PrgA.right {E:List Int} {K:Nat} {rl:List Rl} {st:Sts} (h:PrgA E 120 K rl st):rightB st rl=true:=by
 unfold rightB;rw [h.sets,<- mayRf_eq,h.may];have h1:=h.sts.2.2;have h2:=h.few;simp [h1,h2]
theorem parseL_few {zs:List Int} {us:List U} (hr:Run zs 0 us zs.length) (hz:zs.length<=1500) {rl:List Rl} {st:Sts} (h:parseL (toksL zs.length us) = .inr (rl,st)):FewOk st rl/\rightB st rl=true:=by
 cases ht:toksL zs.length us with
 | inl e=>rw [ht] at h;cases h
 | inr l =>
  have h1:=toks_few hr ht;have h2:=toks_count hr ht;have h3:=(toks_ok hr ht).2;rw [ht] at h;have hp:=parseL_a (f:=120) (K:=3099) (λt q=>(h3 t q).1) (by omega) (by omega) h;exact ⟨hp.few_ok (Nat.le_refl _) (by rw [edgesOf_len];omega),hp.right⟩
def Asc (l:List Int):Prop:=∀c∈l,0<=c/\c<128
theorem signT_asc (k:Int):Asc (signT k):=by
 intro c hc;unfold signT at hc
 split at hc
 · simp at hc;omega
 · split at hc
   · simp at hc;omega
   · split at hc
     · simp at hc;omega
     · cases hc
theorem txK_asc {g:Nd->List Int} {k:Int}:∀ {l:List Nd} {fst:Bool},(∀x∈l,Asc (g x))->Asc (txK g k fst l)
 | [],_,_=>λc hc=>(by cases hc)
 | x::l,fst,h=>λc hc=>by
  unfold txK at hc;rcases List.mem_append.1 hc with q | q
  · unfold barT at q
    split at q
    · simp at q;omega
    · cases q
  · rcases List.mem_append.1 q with q | q
    · unfold brT at q
      split at q
      · rcases List.mem_cons.1 q with q | q
        · omega
        · rcases List.mem_append.1 q with q | q
          · exact h x (by simp) c q
          · simp at q;omega
      · exact h x (by simp) c q
    · exact txK_asc (λy hy=>h y (by simp [hy])) c q
theorem txN_asc {S:List (List Int)} (hS:∀s∈S,Asc s):∀(f:Nat) (n:Nd),Asc (txN f S n)
 | f,n=>by
  have hh:Asc (headT S n):=by
   unfold headT
   split
   · rw [List.getD_eq_getElem?_getD];cases h:S[n.s.toNat]? with
     | none=>intro c hc;cases hc
     | some s=>exact hS s (List.mem_of_getElem? h)
   · intro c hc;cases hc
  cases f with
  | zero =>
   intro c hc;unfold txN at hc;rcases List.mem_append.1 hc with q | q
   · exact hh c q
   · exact signT_asc _ c q
  | succ f =>
   intro c hc;unfold txN at hc;rcases List.mem_append.1 hc with q | q
   · exact hh c q
   · rcases List.mem_append.1 q with q | q
     · exact txK_asc (λx _=>txN_asc hS f x) c q
     · exact signT_asc _ c q
theorem progT_asc {st:Sts} {rl:List Rl}:∀c∈progT (st.map setL) rl,0<=c/\c<128:=by
 have hS:∀s∈st.map setL,Asc s:=λs hs c hc=>by
  obtain ⟨l,_,rfl⟩:=List.mem_map.1 hs;have:=setL_byt l c hc;omega
 intro c hc;obtain ⟨x,_,hx⟩:=List.mem_flatMap.1 hc;unfold rlT at hx;rcases List.mem_append.1 hx with q | q
 · unfold kwT at q
   split at q<;>(simp at q;omega)
 · rcases List.mem_append.1 q with q | q
   · exact txN_asc hS 120 _ c q
   · rcases List.mem_cons.1 q with q | q
     · omega
     · rcases List.mem_append.1 q with q | q
       · exact txN_asc hS 120 _ c q
       · simp at q;omega
def mvN (g:Int->Int):Nat->Nd->Nd
 | 0,n=>⟨n.k,if n.k=1 then g n.s else n.s,[]⟩
 | f+1,n=>⟨n.k,if n.k=1 then g n.s else n.s,n.kids.map (mvN g f)⟩
theorem mvN_k (g:Int->Int) (f:Nat) (n:Nd):(mvN g f n).k=n.k:=by cases f<;>rfl
theorem mvN_s (g:Int->Int) (f:Nat) (n:Nd):(mvN g f n).s=if n.k=1 then g n.s else n.s:=by cases f<;>rfl
theorem mvN_dp (g:Int->Int):∀ {f:Nat} {n:Nd},Dp f n.kids->Dp f (mvN g f n).kids
 | 0,n,h=>rfl
 | f+1,n,h=>⟨by show (n.kids.map _).length<=_;rw [List.length_map];exact h.1,λx hx=>by
  obtain ⟨y,hy,rfl⟩:=List.mem_map.1 hx;exact mvN_dp g (h.2 y hy)⟩
theorem mvN_len (g:Int->Int) {f:Nat} {n:Nd} (h:Dp f n.kids):(mvN g f n).kids.length=n.kids.length:=by
 cases f with
 | zero=>rw [show n.kids=[] from h];rfl
 | succ f=>exact List.length_map _
theorem mvN_okH (g:Int->Int) {f sg:Nat} {n:Nd} (h:Dp f n.kids) (hk:n.k≠1):okH sg (mvN g f n)=okH sg n:=by
 unfold okH;rw [mvN_k,mvN_s,mvN_len g h,if_neg hk]
theorem mvN_ok (g:Int->Int):∀ {f dp sg:Nat} {n:Nd},Dp f n.kids->okN f dp sg (mvN g f n)=okN f dp sg n
 | 0,dp,sg,n,h=>by
  unfold okN;rw [mvN_k];by_cases q:n.k=1
  · rw [if_pos q,if_pos q,show n.kids=[] from h];rfl
  · rw [if_neg q,if_neg q,mvN_okH g (f:=0) h q]
 | f+1,dp,sg,n,h=>by
  unfold okN;rw [mvN_k];by_cases q:n.k=1
  · rw [if_pos q,if_pos q];show (n.kids.map (mvN g f)).isEmpty=_;cases n.kids<;>rfl
  · rw [if_neg q,if_neg q,mvN_okH g h q]
    congr 1
    show (n.kids.map (mvN g f)).all _=_;rw [List.all_map];have:∀(l:List Nd),(∀x∈l,Dp f x.kids)->(l.all ((λx=>decide (dp+brN x.k n.k<=20)&&okN f (dp+brN x.k n.k) (sgs sg n.k) x) ∘ mvN g f))=l.all λx=>decide (dp+brN x.k n.k<=20)&&okN f (dp+brN x.k n.k) (sgs sg n.k) x:=λl=>by
     induction l with
     | nil=>intro _;rfl
     | cons x l ih =>
      intro hl;rw [List.all_cons,List.all_cons,ih λy hy=>hl y (by simp [hy])];simp only [Function.comp,mvN_k];rw [mvN_ok g (hl x (by simp))]
    exact this _ h.2
theorem mvN_met {g:Int->Int} {c:Nat->Nat} {L:Nat} (H:∀m s m',m'<=L->meetS m s=some m'->meetS (c m) (g s)=some (c m')):∀ {f m m':Nat} {n:Nd},m'<=L->metN f m n=some m'->metN f (c m) (mvN g f n)=some (c m')
 | 0,m,m',n,hl,h=>by
  unfold metN at h ⊢;rw [mvN_k,mvN_s];by_cases q:n.k=1
  · rw [if_pos q] at h;rw [if_pos q,if_pos q];exact H _ _ _ hl h
  · rw [if_neg q] at h;rw [if_neg q];obtain rfl:m=m':=by simpa using h
    rfl
 | f+1,m,m',n,hl,h=>by
  unfold metN at h ⊢;rw [mvN_k,mvN_s];by_cases q:n.k=1
  · rw [if_pos q] at h;rw [if_pos q,if_pos q];exact H _ _ _ hl h
  · rw [if_neg q] at h;rw [if_neg q];show metL (metN f) (c m) (n.kids.map (mvN g f))=_;have:∀(l:List Nd) (m:Nat),metL (metN f) m l=some m'->metL (metN f) (c m) (l.map (mvN g f))=some (c m'):=λl=>by
     induction l with
     | nil =>
      intro m h;obtain rfl:m=m':=by simpa [metL] using h
      rfl
     | cons x l ih =>
      intro m h;unfold metL at h;rw [List.map_cons];unfold metL;cases e:metN f m x with
      | none=>rw [e] at h;cases h
      | some m1 =>
       rw [e] at h;have hge:m1<=m':=by
        have:∀(l:List Nd) (a:Nat),metL (metN f) a l=some m'->a<=m':=λl=>by
         induction l with
         | nil =>
          intro a h;obtain rfl:a=m':=by simpa [metL] using h
          exact Nat.le_refl _
         | cons y l ih2 =>
          intro a h;unfold metL at h;cases e2:metN f a y with
          | none=>rw [e2] at h;cases h
          | some b =>
           rw [e2] at h;have h1:=metN_ge e2;have h2:=ih2 b h;omega
        exact this _ _ h
       rw [mvN_met H (Nat.le_trans hge hl) e];exact ih m1 h
    exact this _ _ h
theorem txK_map {a b:Nd->List Int} {g:Nd->Nd} {k:Int} (hk:∀x,(g x).k=x.k):∀ {l:List Nd} {fst:Bool},(∀x∈l,a (g x)=b x)->txK a k fst (l.map g)=txK b k fst l
 | [],fst,h=>rfl
 | x::l,fst,h=>by
  rw [List.map_cons];unfold txK;rw [hk,h x (by simp),txK_map hk λy hy=>h y (by simp [hy])]
theorem mvN_tx {g:Int->Int} {S T:List (List Int)} {b:Nat} (H:∀s:Int,0<=s->s<(b:Int)->S.getD (g s).toNat []=T.getD s.toNat []):∀ {f:Nat} {n:Nd},Dp f n.kids->SIn f b n->txN f S (mvN g f n)=txN f T n:=by
 have hh:∀ {f:Nat} {n:Nd},SIn f b n->headT S (mvN g f n)=headT T n:=fun {f n} h=>by
  unfold headT;rw [mvN_k,mvN_s];by_cases q:n.k=1
  · rw [if_pos q,if_pos q,if_pos q];exact H _ (h.here q).1 (h.here q).2
  · rw [if_neg q,if_neg q]
 intro f
 induction f with
 | zero =>
  intro n hd h;unfold txN;rw [hh h,mvN_k]
 | succ f ih =>
  intro n hd h;unfold txN;rw [hh h,mvN_k]
  congr 2
  exact txK_map (mvN_k g f) λx hx=>ih (hd.2 x hx) (h.2 x hx)
theorem txN_more {S T:List (List Int)} {b:Nat} (H:∀s:Int,0<=s->s<(b:Int)->S.getD s.toNat []=T.getD s.toNat []):∀ {f:Nat} {n:Nd},SIn f b n->txN f S n=txN f T n:=by
 have hh:∀ {f:Nat} {n:Nd},SIn f b n->headT S n=headT T n:=fun {f n} h=>by
  unfold headT;by_cases q:n.k=1
  · rw [if_pos q,if_pos q];exact H _ (h.here q).1 (h.here q).2
  · rw [if_neg q,if_neg q]
 intro f
 induction f with
 | zero =>
  intro n h;unfold txN;rw [hh h]
 | succ f ih =>
  intro n h;unfold txN;rw [hh h]
  congr 2
  have:=txK_map (a:=txN f S) (b:=txN f T) (g:=id) (k:=n.k) (λ_=>rfl) (l:=n.kids) (fst:=true) λx hx=>ih (h.2 x hx)
  rwa [List.map_id] at this
def nwS (P:Sts) (x:List Rg):Bool := !(P.any λy=>sameS y x)
def jnS (P Q:Sts):Sts:=P++Q.filter (nwS P)
def ctS (P Q:Sts) (j:Nat):Nat:=P.length+((Q.take j).filter (nwS P)).length
def rnS (P Q:Sts) (s:Int):Int:=if nwS P (Q.getD s.toNat [])=true then (ctS P Q s.toNat:Int) else ((idxS (Q.getD s.toNat []) P).getD 0:Nat)
theorem nwS_iff {P:Sts} {x:List Rg}:nwS P x=true↔x ∉ P:=by
 unfold nwS;rw [Bool.not_eq_true',List.any_eq_false];constructor
 · intro h q;exact h x q (sameS_iff.2 rfl)
 · intro h y hy q;rw [sameS_iff.1 q] at hy;exact h hy
theorem idxS_get:∀ {s:List Rg} {l:Sts},s∈l->∃i,idxS s l=some i/\∃h:i<l.length,l[i]=s
 | s,[],h=>by cases h
 | s,x::l,h=>by
  unfold idxS;by_cases q:sameS x s=true
  · rw [if_pos q];exact ⟨0,rfl,by simp,sameS_iff.1 q⟩
  · rw [if_neg q];have h2:s∈l:=by
     rcases List.mem_cons.1 h with r | r
     · exact absurd (sameS_iff.2 r.symm) q
     · exact r
    obtain ⟨i,e,hi,e2⟩:=idxS_get h2;rw [e];exact ⟨i+1,rfl,by simpa using hi,by simpa using e2⟩
theorem ctS_step {P Q:Sts} {j:Nat} (h:j<Q.length):ctS P Q (j+1)=ctS P Q j+if nwS P Q[j]=true then 1 else 0:=by
 unfold ctS;rw [List.take_add_one,List.getElem?_eq_getElem h];simp only [Option.toList_some,List.filter_append,List.length_append];by_cases q:nwS P Q[j]=true
 · simp [q];omega
 · simp [q]
theorem ctS_mono {P Q:Sts} {i j:Nat} (h:i<=j):ctS P Q i<=ctS P Q j:=by
 unfold ctS;have:(Q.take i).Sublist (Q.take j):=(List.take_prefix_take_left h).sublist;have:=(this.filter (nwS P)).length_le;omega
theorem ctS_ge (P Q:Sts) (j:Nat):P.length<=ctS P Q j:=by unfold ctS;omega
theorem rnS_old {P Q:Sts} {s:Nat} (h:s<Q.length) (q:¬nwS P Q[s]=true) :∃i:Nat,rnS P Q (s:Int)=(i:Int)/\∃hi:i<P.length,P[i]=Q[s]:=by
 have hm:Q[s]∈P:=by
  by_cases r:Q[s]∈P
  · exact r
  · exact absurd (nwS_iff.2 r) q
 obtain ⟨i,e,hi,e2⟩:=idxS_get hm;have hg:Q.getD (s:Int).toNat []=Q[s]:=by simp [List.getD,h]
 refine ⟨i,?_,hi,e2⟩;unfold rnS;rw [hg,if_neg q,e];rfl
theorem rnS_new {P Q:Sts} {s:Nat} (h:s<Q.length) (q:nwS P Q[s]=true):rnS P Q (s:Int)=(ctS P Q s:Int):=by
 have hg:Q.getD (s:Int).toNat []=Q[s]:=by simp [List.getD,h]
 unfold rnS;rw [hg,if_pos q];rfl
theorem meet_rn {P Q:Sts} (m:Nat) (s:Int) (m':Nat) (hl:m'<=Q.length) (h:meetS m s=some m'):meetS (ctS P Q m) (rnS P Q s)=some (ctS P Q m'):=by
 have hge:=ctS_ge P Q m;unfold meetS at h
 split at h
 · rename_i q;subst q;obtain rfl:m+1=m':=by simpa using h
   have hm:m<Q.length:=by omega
   rw [ctS_step hm];by_cases q:nwS P Q[m]=true
   · rw [rnS_new hm q,if_pos q];unfold meetS;rw [if_pos rfl]
   · obtain ⟨i,e,hi,_⟩:=rnS_old hm q;rw [e,if_neg q];unfold meetS;rw [if_neg (by omega),if_pos (by omega)];rfl
 · split at h
   · rename_i q;obtain rfl:m=m':=by simpa using h
     obtain ⟨t,rfl⟩ :∃t:Nat,s=(t:Int):=⟨s.toNat,by omega⟩;have ht:t<m:=by omega
     have hq:t<Q.length:=by omega
     by_cases r:nwS P Q[t]=true
     · have h1:=ctS_step (P:=P) hq;rw [if_pos r] at h1;have h2:=ctS_mono (P:=P) (Q:=Q) (show t+1<=m from ht);rw [rnS_new hq r];unfold meetS;rw [if_neg (by omega),if_pos (by omega)]
     · obtain ⟨i,e,hi,_⟩:=rnS_old hq r;rw [e];unfold meetS;rw [if_neg (by omega),if_pos (by omega)]
   · cases h
theorem jn_get {P Q:Sts} {s:Nat} (h:s<Q.length):(jnS P Q)[(rnS P Q (s:Int)).toNat]? = some Q[s]:=by
 unfold jnS;by_cases q:nwS P Q[s]=true
 · rw [rnS_new h q];have e:((ctS P Q s:Nat):Int).toNat=P.length+((Q.take s).filter (nwS P)).length:=rfl;rw [e,List.getElem?_append_right (by omega),Nat.add_sub_cancel_left];have hQ:Q=Q.take s++Q[s]::Q.drop (s+1):=by
    rw [List.getElem_cons_drop,List.take_append_drop]
   have hf:Q.filter (nwS P)=(Q.take s).filter (nwS P)++Q[s]::(Q.drop (s+1)).filter (nwS P):=by
    conv=>lhs;rw [hQ]
    rw [List.filter_append,List.filter_cons,if_pos q]
   rw [hf,List.getElem?_append_right (Nat.le_refl _),Nat.sub_self];rfl
 · obtain ⟨i,e,hi,e2⟩:=rnS_old h q;rw [e];show (P++_)[i]? = _;rw [List.getElem?_append_left hi,List.getElem?_eq_getElem hi,e2]
theorem jn_txt {P Q:Sts} (s:Int) (h0:0<=s) (h1:s<(Q.length:Int)):((jnS P Q).map setL).getD (rnS P Q s).toNat []=(Q.map setL).getD s.toNat []:=by
 obtain ⟨t,rfl⟩ :∃t:Nat,s=(t:Int):=⟨s.toNat,by omega⟩;have ht:t<Q.length:=by omega
 rw [List.getD_eq_getElem?_getD,List.getD_eq_getElem?_getD,List.getElem?_map,List.getElem?_map,jn_get ht,show ((t:Int)).toNat=t from rfl,List.getElem?_eq_getElem ht]
theorem jn_txt0 {P Q:Sts} (s:Int) (h0:0<=s) (h1:s<(P.length:Int)):((jnS P Q).map setL).getD s.toNat []=(P.map setL).getD s.toNat []:=by
 obtain ⟨t,rfl⟩ :∃t:Nat,s=(t:Int):=⟨s.toNat,by omega⟩;have ht:t<P.length:=by omega
 rw [List.getD_eq_getElem?_getD,List.getD_eq_getElem?_getD,List.getElem?_map,List.getElem?_map];unfold jnS;rw [show ((t:Int)).toNat=t from rfl,List.getElem?_append_left ht]
theorem jn_nodup {P Q:Sts} (hP:P.Nodup) (hQ:Q.Nodup):(jnS P Q).Nodup:=by
 unfold jnS;rw [List.nodup_append];refine ⟨hP,hQ.sublist List.filter_sublist,λa ha b hb e => ?_⟩;subst e;exact nwS_iff.1 (List.mem_filter.1 hb).2 ha
theorem jn_len (P Q:Sts):(jnS P Q).length=ctS P Q Q.length:=by
 unfold jnS ctS;rw [List.take_length,List.length_append]
theorem jn_le (P Q:Sts):(jnS P Q).length<=P.length+Q.length:=by
 unfold jnS;have:=List.length_filter_le (nwS P) Q;rw [List.length_append];omega
def mvR (g:Int->Int) (x:Rl):Rl:=⟨x.b,mvN g 120 x.l,mvN g 120 x.r⟩
theorem mvN_may {g:Int->Int} {c:Nat->Nat} {L:Nat} (H:∀m s m',m'<=L->meetS m s=some m'->meetS (c m) (g s)=some (c m')) {f m m':Nat} {n:Nd} (hd:Dp f n.kids) (hl:m'<=L) (h:mayN f 0 0 m n=some m'):mayN f 0 0 (c m) (mvN g f n)=some (c m'):=by
 unfold mayN at h ⊢;rw [mvN_ok g hd]
 split at h
 · rename_i q;rw [if_pos q];exact mvN_met H hl h
 · cases h
theorem mvR_may {g:Int->Int} {c:Nat->Nat} {L:Nat} (H:∀m s m',m'<=L->meetS m s=some m'->meetS (c m) (g s)=some (c m')):∀ {rl:List Rl} {m m':Nat},(∀x∈rl,Dp 120 x.l.kids/\Dp 120 x.r.kids)->m'<=L->mayR m rl=some m'->mayR (c m) (rl.map (mvR g))=some (c m')
 | [],m,m',hd,hl,h=>by
  obtain rfl:m=m':=Option.some.inj h;rfl
 | x::rl,m,m',hd,hl,h=>by
  rw [List.map_cons];unfold mayR at h ⊢
  split at h
  · cases h
  · rename_i a e1
    split at h
    · cases h
    · rename_i b e2;have hge:=mayR_ge h;have h2:=(mayN_in (hd x (by simp)).2 e2).2;show (match mayN 120 0 0 (c m) (mvN g 120 x.l) with | none=>none | some m1=>match mayN 120 0 0 m1 (mvN g 120 x.r) with | none=>none | some m2=>mayR m2 (rl.map (mvR g)))=_;rw [mvN_may H (hd x (by simp)).1 (by omega) e1];show (match mayN 120 0 0 (c a) (mvN g 120 x.r) with | none=>none | some m2=>mayR m2 (rl.map (mvR g)))=_;rw [mvN_may H (hd x (by simp)).2 (by omega) e2];exact mvR_may H (λy hy=>hd y (by simp [hy])) hl h
theorem mayR_app:∀ {a b:List Rl} {m m1 m2:Nat},mayR m a=some m1->mayR m1 b=some m2->mayR m (a++b)=some m2
 | [],b,m,m1,m2,h,k=>by
  obtain rfl:m=m1:=Option.some.inj h;exact k
 | x::a,b,m,m1,m2,h,k=>by
  rw [List.cons_append];unfold mayR at h ⊢
  split at h
  · cases h
  · split at h
    · cases h
    · exact mayR_app h k
theorem right_nodup {st:Sts} {rl:List Rl} (hr:rightB st rl=true):st.Nodup:=by
 have hset:setsF st.length st=true:=by
  unfold rightB at hr;simp only [Bool.and_eq_true] at hr;exact hr.1.2
 obtain ⟨s1,s2⟩:=setsF_parts hset (Nat.le_refl _);exact List.pairwise_iff_getElem.2 λi j hi hj hij=>s2 i j hij hj hj
theorem flat_congr {a b:Rl->List Int}:∀ {l:List Rl},(∀x∈l,a x=b x)->l.flatMap a=l.flatMap b
 | [],_=>rfl
 | x::l,h=>by
  rw [List.flatMap_cons,List.flatMap_cons,h x (by simp),flat_congr λy hy=>h y (by simp [hy])]
theorem right_join {P Q:Sts} {p q:List Rl} (hp:rightB P p=true) (hq:rightB Q q=true) (hdp:∀x∈p,Dp 120 x.l.kids/\Dp 120 x.r.kids) (hdq:∀x∈q,Dp 120 x.l.kids/\Dp 120 x.r.kids) (h64:p.length+q.length<=64) (h60:P.length+Q.length<=60) :
 rightB (jnS P Q) (p++q.map (mvR (rnS P Q)))=true/\progT ((jnS P Q).map setL) (p++q.map (mvR (rnS P Q)))=progT (P.map setL) p++progT (Q.map setL) q/\∀x∈p++q.map (mvR (rnS P Q)),Dp 120 x.l.kids/\Dp 120 x.r.kids:=by
 obtain ⟨p1,p2,psets,pmay⟩:=rightB_parts hp;obtain ⟨q1,q2,qsets,qmay⟩:=rightB_parts hq;have hnd:=jn_nodup (right_nodup hp) (right_nodup hq);have hle:=jn_le P Q;have hmay:mayR 0 (p++q.map (mvR (rnS P Q)))=some (jnS P Q).length:=by
  have h1:=mvR_may (g:=rnS P Q) (c:=ctS P Q) (L:=Q.length) meet_rn hdq (Nat.le_refl _) qmay;have e0:ctS P Q 0=P.length:=by simp [ctS]
  rw [e0,<- jn_len] at h1;exact mayR_app pmay h1
 have hsets:setsF (jnS P Q).length (jnS P Q)=true:=setsF_of (λs hs=>by
  unfold jnS at hs;rcases List.mem_append.1 hs with r | r
  · exact psets s r
  · exact qsets s (List.mem_filter.1 r).1) hnd _
 refine ⟨?_,?_,λx hx => ?_⟩
 · unfold rightB;rw [hsets,hmay];have e1:(jnS P Q).length<=60:=by omega
   have e2:(p++q.map (mvR (rnS P Q))).length<=64:=by simp;omega
   simp only [e1,e2,decide_true,Bool.true_and,beq_self_eq_true]
 · have hsp:=(mayR_in hdp pmay).1;have hsq:=(mayR_in hdq qmay).1;unfold progT;rw [List.flatMap_append]
   congr 1
   · apply flat_congr;intro x hx;rw [txN_more jn_txt0 (hsp x hx).1,txN_more jn_txt0 (hsp x hx).2]
   · rw [List.flatMap_map];apply flat_congr;intro x hx;show rlT x.b (txN 120 _ (mvN _ 120 x.l)) (txN 120 _ (mvN _ 120 x.r))=_;rw [mvN_tx jn_txt (hdq x hx).1 (hsq x hx).1,mvN_tx jn_txt (hdq x hx).2 (hsq x hx).2]
 · rcases List.mem_append.1 hx with r | r
   · exact hdp x r
   · obtain ⟨y,hy,rfl⟩:=List.mem_map.1 r;exact ⟨mvN_dp _ (hdq y hy).1,mvN_dp _ (hdq y hy).2⟩
end Go.Proofs.YtfdjchnckjgapaaGreatDoor
