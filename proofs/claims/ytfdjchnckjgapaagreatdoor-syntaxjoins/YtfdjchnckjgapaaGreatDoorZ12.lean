/-
  SxLen Psr
-/
import Derived.Test.YtfdjchnckjgapaaGreatDoorZ11
import Derived.Test.YtfdjchnckjgapaaGreatDoorZ03
import Derived.Test.YtfdjchnckjgapaaGreatDoorZ07
import Derived.Maps.OwnSet
namespace Go.Proofs.YtfdjchnckjgapaaGreatDoor
open Go.RowKit S1
set_option linter.unusedVariables false
def Left (ts r:List Tok):Prop:=r.length<=ts.length/\(EndsT ts->EndsT r)/\∀t∈r,t∈ts
def LeftS (ts r:List Tok):Prop:=r.length<ts.length/\(EndsT ts->EndsT r)/\∀t∈r,t∈ts
theorem Left.refl (ts:List Tok):Left ts ts:=⟨Nat.le_refl _,id,λ_ h=>h⟩
theorem Left.trans {a b c:List Tok} (h:Left a b) (k:Left b c):Left a c:=⟨Nat.le_trans k.1 h.1,λx=>k.2.1 (h.2.1 x),λt q=>h.2.2 t (k.2.2 t q)⟩
theorem LeftS.left {a b:List Tok} (h:LeftS a b):Left a b:=⟨Nat.le_of_lt h.1,h.2⟩
theorem LeftS.trans {a b c:List Tok} (h:LeftS a b) (k:Left b c):LeftS a c:=⟨Nat.lt_of_le_of_lt k.1 h.1,λx=>k.2.1 (h.2.1 x),λt q=>h.2.2 t (k.2.2 t q)⟩
theorem Left.transS {a b c:List Tok} (h:Left a b) (k:LeftS b c):LeftS a c:=⟨Nat.lt_of_lt_of_le k.1 h.1,λx=>k.2.1 (h.2.1 x),λt q=>h.2.2 t (k.2.2 t q)⟩
theorem leftS_tail {ts:List Tok} (h:(hdT ts).k≠4):LeftS ts ts.tail:=by
 match ts,h with
 | [],h=>exact absurd rfl h
 | t::r,h=>exact ⟨by simp,λe=>e.tail h,λt q=>List.mem_of_mem_tail q⟩
theorem left_tail_sign {c:Int} {ts:List Tok} (h:tkSign c (hdT ts)=true):LeftS ts ts.tail:=leftS_tail (sign_end h)
theorem setM_end {N:Nms} {t:Tok} {s:List Rg} (h:setM N t = .inr s):t.k≠4:=by
 intro e;have h2:∀c,tkSign c t=false:=λc=>by simp [tkSign,e]
 have h3:tkName t=false:=by simp [tkName,e]
 simp [setM,e,h2,h3] at h
theorem opOf_end {t:Tok} {op} (h:opOf t=some op):t.k≠4:=by
 intro e;have h2:∀c,tkSign c t=false:=λc=>by simp [tkSign,e]
 simp [opOf,h2] at h
theorem kindT_end {t:Tok} (h:kindT t≠0):t.k≠4:=by
 intro e;have h2:∀c,tkSign c t=false:=λc=>by simp [tkSign,e]
 simp [kindT,h2] at h
def QLeft (ts:List Tok):QR->Prop
 | .inl (r,_)=>Left ts r
 | .inr (_,r)=>LeftS ts r
theorem QLeft.weak {a b:List Tok} (h:Left a b) {q:QR} (k:QLeft b q):QLeft a q:=by
 match q,k with
 | .inl (r,_),k=>exact h.trans k
 | .inr (s,r),k=>exact h.transS k
theorem sumF_left {f:List Tok->QR} (hf:∀ts,QLeft ts (f ts)):∀(n:Nat) (acc:List Rg) (ts:List Tok),(∀r e,sumF f n acc ts = .inl (r,e)->Left ts r)/\(∀s r,sumF f n acc ts = .inr (s,r)->Left ts r)
 | 0,acc,ts=>⟨λr e h=>(by cases h),λs r h=>(by cases h;exact Left.refl _)⟩
 | n+1,acc,ts=>by
  unfold sumF
  split
  · exact ⟨λr e h=>(by cases h),λs r h=>(by cases h;exact Left.refl _)⟩
  · rename_i op ho;have h0:=leftS_tail (opOf_end ho);have h1:=hf ts.tail
    split
    · rename_i e he;rw [he] at h1;obtain ⟨r',e'⟩:=e;exact ⟨λr e h=>(by cases h;exact h0.left.trans h1),λs r h=>(by cases h)⟩
    · rename_i s r he;rw [he] at h1;have ih:=sumF_left hf n (op acc s) r;have h2:Left ts r:=(h0.trans (LeftS.left h1)).left;exact ⟨λr e h=>h2.trans (ih.1 r e h),λs r h=>h2.trans (ih.2 s r h)⟩
theorem sumG_left {f:List Tok->QR} (hf:∀ts,QLeft ts (f ts)) (ts:List Tok):QLeft ts (sumG f ts):=by
 have h1:=hf ts;unfold sumG
 split
 · rename_i e he;rw [he] at h1;exact h1
 · rename_i s r he;rw [he] at h1;have ih:=sumF_left hf (r.length+1) s r;cases h:sumF f (r.length+1) s r with
   | inl x=>obtain ⟨r',e'⟩:=x;exact (LeftS.left h1).trans (ih.1 _ _ h)
   | inr x=>obtain ⟨s',r'⟩:=x;exact LeftS.trans h1 (ih.2 _ _ h)
theorem endQ_left {c:Int} {ts:List Tok} {q:QR} (h:QLeft ts q):QLeft ts (endQ c q):=by
 match q,h with
 | .inl (r,e),h=>exact h
 | .inr (s,r),h =>
  simp only [endQ]
  split
  · rename_i q;exact LeftS.trans h (left_tail_sign q).left
  · exact LeftS.left h
theorem termG_left {N:Nms} {f:Option (List Tok->QR)} (hf:∀g,f=some g->∀ts,QLeft ts (g ts)) (ts:List Tok):QLeft ts (termG N f ts):=by
 unfold termG
 split
 · rename_i hs;have h0:=left_tail_sign hs
   split
   · exact Left.refl ts
   · rename_i g;have h1:=hf g rfl ts.tail;cases h:g ts.tail with
     | inl x=>obtain ⟨r',e'⟩:=x;rw [h] at h1;exact h0.left.trans h1
     | inr x=>obtain ⟨s',r'⟩:=x;rw [h] at h1;exact h0.trans (LeftS.left h1)
 · split
   · rename_i hs;have h0:=left_tail_sign hs
     split
     · exact Left.refl ts
     · rename_i g;exact QLeft.weak h0.left (endQ_left (sumG_left (hf g rfl) ts.tail))
   · split
     · exact Left.refl ts
     · rename_i s hs;exact leftS_tail (setM_end hs)
theorem termM_left (N:Nms):∀(b:Nat) (ts:List Tok),QLeft ts (termM N b ts)
 | 0,ts=>termG_left (λg h=>by cases h) ts
 | b+1,ts=>termG_left (λg h=>by cases h;exact termM_left N b) ts
theorem sumM_left (N:Nms) (b:Nat) (ts:List Tok):QLeft ts (sumM N b ts):=sumG_left (termM_left N b) ts
def NLeft {α:Type} (ts:List Tok):NR α->Prop
 | .inl (r,_)=>Left ts r
 | .inr (_,r,_)=>Left ts r
def NLeftS {α:Type} (ts:List Tok):NR α->Prop
 | .inl (r,_)=>Left ts r
 | .inr (_,r,_)=>LeftS ts r
theorem endN_left {c:Int} {ts:List Tok} {q:NR Nd} (h:NLeft ts q):NLeft ts (endN c q):=by
 match q,h with
 | .inl (r,e),h=>exact h
 | .inr (n,r,st),h =>
  simp only [endN]
  split
  · rename_i q;exact Left.trans h (left_tail_sign q).left
  · exact h
theorem partM_left {N:Nms} {f:Option (List Tok->Sts->NR Nd)} (hf:∀g,f=some g->∀ts st,NLeft ts (g ts st)) (ts:List Tok) (st:Sts):NLeftS ts (partM N f ts st):=by
 unfold partM
 split
 · rename_i hs;have h0:=left_tail_sign hs
   split
   · exact Left.refl ts
   · rename_i g;have h1:=endN_left (c:=41) (hf g rfl ts.tail st);cases h:endN 41 (g ts.tail st) with
     | inl x=>obtain ⟨r',e'⟩:=x;rw [h] at h1;exact h0.left.trans h1
     | inr x=>obtain ⟨s',r',st'⟩:=x;rw [h] at h1;exact h0.trans h1
 · split
   · exact Left.refl ts
   · rename_i s hs
     split
     · exact Left.refl ts
     · exact leftS_tail (setM_end hs)
theorem signF_left:∀(f c:Nat) (n:Nd) (ts:List Tok) (st:Sts),NLeft ts (signF f c n ts st)
 | 0,c,n,ts,st=>Left.refl ts
 | f+1,c,n,ts,st=>by
  unfold signF
  split
  · exact Left.refl ts
  · rename_i hk
    split
    · exact Left.refl ts
    · have h0:=leftS_tail (kindT_end hk);have ih:=signF_left f (c+1) ⟨kindT (hdT ts),0,[n]⟩ ts.tail st;cases h:signF f (c+1) ⟨kindT (hdT ts),0,[n]⟩ ts.tail st with
      | inl x=>obtain ⟨r',e'⟩:=x;rw [h] at ih;exact h0.left.trans ih
      | inr x=>obtain ⟨s',r',st'⟩:=x;rw [h] at ih;exact h0.left.trans ih
theorem signedM_left {p:List Tok->Sts->NR Nd} (hp:∀ts st,NLeftS ts (p ts st)) (ts:List Tok) (st:Sts):NLeftS ts (signedM p ts st):=by
 have h1:=hp ts st;unfold signedM
 split
 · rename_i e he;rw [he] at h1;exact h1
 · rename_i n r st' he;rw [he] at h1;have h2:=signF_left 4 (cntN 4 n) n r st';cases h:signF 4 (cntN 4 n) n r st' with
   | inl x=>obtain ⟨r',e'⟩:=x;rw [h] at h2;exact (LeftS.left h1).trans h2
   | inr x=>obtain ⟨s',r',st'⟩:=x;rw [h] at h2;exact LeftS.trans h1 h2
theorem catF_left {p:List Tok->Sts->NR Nd} (hp:∀ts st,NLeftS ts (p ts st)):∀(f:Nat) (acc:List Nd) (ts:List Tok) (st:Sts),NLeft ts (catF p f acc ts st)
 | 0,acc,ts,st=>Left.refl ts
 | f+1,acc,ts,st=>by
  have h1:=hp ts st;unfold catF
  split
  · split
    · rename_i e he;rw [he] at h1;exact h1
    · rename_i n r st' he;rw [he] at h1;have ih:=catF_left hp f (acc++[n]) r st';cases h:catF p f (acc++[n]) r st' with
      | inl x=>obtain ⟨r',e'⟩:=x;rw [h] at ih;exact (LeftS.left h1).trans ih
      | inr x=>obtain ⟨s',r',st'⟩:=x;rw [h] at ih;exact (LeftS.left h1).trans ih
  · exact Left.refl ts
theorem catM_left {p:List Tok->Sts->NR Nd} (hp:∀ts st,NLeftS ts (p ts st)) (ts:List Tok) (st:Sts):NLeft ts (catM p ts st):=by
 have h1:=catF_left hp (ts.length+1) [] ts st;unfold catM
 split
 · rename_i e he;rw [he] at h1;exact h1
 · rename_i n r st' he;rw [he] at h1;exact h1
theorem altF_left {p:List Tok->Sts->NR Nd} (hp:∀ts st,NLeft ts (p ts st)):∀(f:Nat) (acc:List Nd) (ts:List Tok) (st:Sts),NLeft ts (altF p f acc ts st)
 | 0,acc,ts,st=>Left.refl ts
 | f+1,acc,ts,st=>by
  have h1:=hp ts.tail st;unfold altF
  split
  · rename_i hs;have h0:=(left_tail_sign hs).left
    split
    · rename_i e he;rw [he] at h1;exact h0.trans h1
    · rename_i n r st' he;rw [he] at h1;have ih:=altF_left hp f (acc++[n]) r st';cases h:altF p f (acc++[n]) r st' with
      | inl x=>obtain ⟨r',e'⟩:=x;rw [h] at ih;exact (h0.trans h1).trans ih
      | inr x=>obtain ⟨s',r',st'⟩:=x;rw [h] at ih;exact (h0.trans h1).trans ih
  · exact Left.refl ts
theorem regexG_left {p:List Tok->Sts->NR Nd} (hp:∀ts st,NLeft ts (p ts st)) (ts:List Tok) (st:Sts):NLeft ts (regexG p ts st):=by
 have h1:=hp ts st;unfold regexG
 split
 · rename_i e he;rw [he] at h1;exact h1
 · rename_i n r st' he;rw [he] at h1;have h2:=altF_left hp (r.length+1) [n] r st'
   split
   · rename_i e he;rw [he] at h2;exact Left.trans h1 h2
   · rename_i l r2 st2 he;rw [he] at h2;exact Left.trans h1 h2
theorem regexM_left (N:Nms):∀(b:Nat) (ts:List Tok) (st:Sts),NLeft ts (regexM N b ts st)
 | 0,ts,st=>regexG_left (catM_left (signedM_left (partM_left (λg h=>by cases h)))) ts st
 | b+1,ts,st=>regexG_left (catM_left (signedM_left (partM_left (λg h=>by cases h;exact regexM_left N b)))) ts st
theorem inner_left (N:Nms) (b:Nat):∀g,inner N b=some g->∀ts st,NLeft ts (g ts st):=λg h=>by
 cases b with
 | zero=>cases h
 | succ b=>cases h;exact regexM_left N b
end Go.Proofs.YtfdjchnckjgapaaGreatDoor
namespace Go.Proofs.YtfdjchnckjgapaaGreatDoor
open Go.RowKit Go.Shelf S1
set_option linter.unusedVariables false
theorem strL (x:List Int):(strOfNums x).toList=x.map λn=>UInt8.ofNat n.toNat:=by
 simp [strOfNums]
theorem below_alloc (w:World) (o:Obj):Below w.heap.size w (w.alloc o):=(Below.refl _ _).alloc (Nat.le_refl _) o
theorem strNums_eq {x y:List Int} (hx:Byt x) (hy:Byt y):((strOfNums x).toList==(strOfNums y).toList)=decide (x=y):=by
 have key:∀x y:List Int,Byt x->Byt y->((x.map λn=>UInt8.ofNat n.toNat)=(y.map λn=>UInt8.ofNat n.toNat))->x=y:=by
  intro x
  induction x with
  | nil=>intro y _ _ h;cases y<;>simp_all
  | cons a x ih =>
   intro y hx hy h;cases y with
   | nil=>simp at h
   | cons b y =>
    simp only [List.map_cons,List.cons.injEq] at h;have ha:=hx a (by simp);have hb:=hy b (by simp);have e:=congrArg UInt8.toNat h.1;simp only [UInt8.toNat_ofNat'] at e;have e2:a=b:=by omega
    rw [e2,ih y (λc hc=>hx c (by simp [hc])) (λc hc=>hy c (by simp [hc])) h.2]
 by_cases q:x=y
 · subst q;simp
 · rw [decide_eq_false q];apply beq_eq_false_iff_ne.2;intro e;exact q (key x y hx hy (by rw [strL,strL] at e;exact e))
def RngS (Q:Nat->Prop) (w:World) (v:Value) (l:List Rg):Prop :=
 ∃a cap,v = .slice a l.length cap/\l.length<=cap/\(a=none->cap=0)/\∀i,(h:i<l.length)->∃g off,a=some ⟨g,off,none⟩/\Q g/\w.cell? ⟨g,off+i*2,none⟩=some (.int .i64 l[i].lo)/\w.cell? ⟨g,off+i*2+1,none⟩=some (.int .i64 l[i].hi)
theorem RngS.to {Q Q':Nat->Prop} {w w':World} {v:Value} {l:List Rg} (h:RngS Q w v l) (hq:∀k,Q k->w'.heap[k]? = w.heap[k]? /\ Q' k):RngS Q' w' v l:=by
 obtain ⟨a,cap,rfl,hc,hn,hi⟩:=h;refine ⟨a,cap,rfl,hc,hn,λi hlt => ?_⟩;obtain ⟨g,off,rfl,hg,h0,h1⟩:=hi i hlt;obtain ⟨hb,hg'⟩:=hq g hg;exact ⟨g,off,rfl,hg',(World.cell?_of_block (a:=⟨g,_,none⟩) hb).trans h0,(World.cell?_of_block (a:=⟨g,_,none⟩) hb).trans h1⟩
theorem RngS.rng {Q:Nat->Prop} {w:World} {v:Value} {l:List Rg} (h:RngS Q w v l) (hq:∀k,Q k->k<w.heap.size):RngIn w v l:=by
 obtain ⟨a,cap,rfl,hc,hn,hi⟩:=h;refine ⟨a,cap,rfl,hc,λi hlt => ?_⟩;obtain ⟨g,off,rfl,hg,h0,h1⟩:=hi i hlt;exact ⟨g,off,rfl,hq g hg,h0,h1⟩
theorem RngS.nil (Q:Nat->Prop) (w:World):RngS Q w (.slice none 0 0) []:=⟨none,0,rfl,Nat.le_refl _,λ_=>rfl,λi h=>(by cases h)⟩
theorem rngS_of_row {Q:Nat->Prop} {w:World} {base:Nat} {v:Value} {l:List Rg} (h:w.ownsRow base 94 2 v l.length (cellsRs l)) (hq:∀k,base<=k->k<w.heap.size->Q k):RngS Q w v l:=by
 obtain ⟨a,cap,e,hc,hi⟩:=rng_of_row h;refine ⟨a,cap,e,hc,λha => ?_,λi hlt => ?_⟩
 · rcases h.2 with ⟨e2,_⟩ | ⟨g,cap2,cur,e2,_⟩
   · rw [e2] at e;simp at e;omega
   · rw [e2,ha] at e;simp at e
 obtain ⟨g,off,rfl,hg,h0,h1⟩:=hi i hlt;exact ⟨g,off,rfl,hq g (h.lt g (by rw [e];rfl)).1 hg,h0,h1⟩
theorem RngS.slice {Q:Nat->Prop} {w:World} {v:Value} {l:List Rg} (h:RngS Q w v l) :∃a cap,v = .slice a l.length cap:=by
 obtain ⟨a,cap,e,_⟩:=h;exact ⟨a,cap,e⟩
def TokS (Q:Nat->Prop) (w:World) (g off k:Nat) (ts:List Tok):Prop:=∀i,(h:i<ts.length)->Q g/\w.cell? ⟨g,off+(k+i)*4,none⟩=some (.int .i64 ts[i].k)/\w.cell? ⟨g,off+(k+i)*4+1,none⟩=some (.int .i64 (ts[i].p:Int))/\w.cell? ⟨g,off+(k+i)*4+2,none⟩=some (.string (strOfNums ts[i].t)) /\
 (∃v,w.cell? ⟨g,off+(k+i)*4+3,none⟩=some v/\RngS Q w v ts[i].s)/\IsSet ts[i].s/\Byt ts[i].t/\ts[i].t.length<=70000
theorem TokS.to {Q Q':Nat->Prop} {w w':World} {g off k:Nat} {ts:List Tok} (h:TokS Q w g off k ts) (hq:∀k,Q k->w'.heap[k]? = w.heap[k]? /\ Q' k):TokS Q' w' g off k ts:=λi hi=>by
 obtain ⟨h0,h1,h2,h3,⟨v,h4,h5⟩,h6⟩:=h i hi;obtain ⟨hb,hg⟩:=hq g h0;exact ⟨hg,(World.cell?_of_block (a:=⟨g,_,none⟩) hb).trans h1,(World.cell?_of_block (a:=⟨g,_,none⟩) hb).trans h2,(World.cell?_of_block (a:=⟨g,_,none⟩) hb).trans h3,⟨v,(World.cell?_of_block (a:=⟨g,_,none⟩) hb).trans h4,h5.to hq⟩,h6⟩
theorem TokS.tail {Q:Nat->Prop} {w:World} {g off k:Nat} {t:Tok} {r:List Tok} (h:TokS Q w g off k (t::r)):TokS Q w g off (k+1) r:=λi hi=>by
 have:=h (i+1) (by simpa using hi);simp only [List.getElem_cons_succ] at this;rw [show k+1+i=k+(i+1) by omega];exact this
def SetsS (Q:Nat->Prop) (w:World) (vs:List Value) (st:Sts):Prop:=vs.length=st.length/\∀i,(h:i<st.length)->∃v,vs[i]? = some v/\RngS Q w v st[i]/\IsSet st[i]
theorem SetsS.to {Q Q':Nat->Prop} {w w':World} {vs:List Value} {st:Sts} (h:SetsS Q w vs st) (hq:∀k,Q k->w'.heap[k]? = w.heap[k]? /\ Q' k):SetsS Q' w' vs st:=⟨h.1,λi hi=>by
 obtain ⟨v,h1,h2,h3⟩:=h.2 i hi;exact ⟨v,h1,h2.to hq,h3⟩⟩
theorem SetsS.snoc {Q:Nat->Prop} {w:World} {vs:List Value} {st:Sts} {v:Value} {s:List Rg} (h:SetsS Q w vs st) (hv:RngS Q w v s) (hs:IsSet s):SetsS Q w (vs++[v]) (st++[s]):=by
 refine ⟨by simp [h.1],λi hi => ?_⟩;by_cases q:i<st.length
 · obtain ⟨x,h1,h2,h3⟩:=h.2 i q;refine ⟨x,by rw [List.getElem?_append_left (by rw [h.1];exact q)];exact h1,?_,?_⟩
   · rw [List.getElem_append_left q];exact h2
   · rw [List.getElem_append_left q];exact h3
 · have e:i=st.length:=by simp at hi;omega
   subst e;refine ⟨v,?_,?_,?_⟩
   · rw [<- h.1];simp
   · simpa using hv
   · simpa using hs
def heldR (v:Value):Option (DataW Value×List MemPlace):=some (.held v,[])
def keyL (x:List Int):Lit := .string (strOfNums x).data.toList
theorem keyL_ne {x y:List Int} (hx:Byt x) (hy:Byt y) (h:x≠y):keyL x≠keyL y:=by
 intro e;have e2:(strOfNums x).data.toList=(strOfNums y).data.toList:=by simpa [keyL] using e
 have:=strNums_eq hx hy;rw [decide_eq_false h] at this;have e3:(strOfNums x).toList=(strOfNums y).toList:=by rw [strL,strL];simpa [strOfNums] using e2
 rw [e3] at this;simp at this
theorem ownsMap_block {H:Type} {P:Program} {k:TypeId} {R:Value->Option (DataW H×List MemPlace)} {w w':World} {b n:Nat} {D:DataW H} (h:w.ownsMap P k R b n D) (hb:w'.heap[b]? = w.heap[b]?):w'.ownsMap P k R b n D:=by
 obtain ⟨es,clock,h1,h2⟩:=h;exact ⟨es,clock,hb.trans h1,h2⟩
def NmS (Q:Nat->Prop) (w:World) (mb m:Nat) (N:Nms):Prop:=Q mb/\∃n D,n<=m/\w.ownsMap Tryz.prog 9 heldR mb n D/\∀x,Byt x->x.length<=70000 ->
 (N x=none->Maps.has D (keyL x)=false)/\∀s,N x=some s->Maps.has D (keyL x)=true/\IsSet s/\∃v,(∀z,D.atKey (keyL x) z = .held v)/\RngS Q w v s
theorem NmS.to {Q Q':Nat->Prop} {w w':World} {mb m:Nat} {N:Nms} (h:NmS Q w mb m N) (hq:∀k,Q k->w'.heap[k]? = w.heap[k]? /\ Q' k) {m':Nat} (hm:m<=m'):NmS Q' w' mb m' N:=by
 obtain ⟨h0,n,D,hn,ho,hx⟩:=h;obtain ⟨hb,hg⟩:=hq mb h0;refine ⟨hg,n,D,by omega,ownsMap_block ho hb,λx hy hl=>⟨(hx x hy hl).1,λs hs => ?_⟩⟩;obtain ⟨h1,h2,v,h3,h4⟩:=(hx x hy hl).2 s hs;exact ⟨h1,h2,v,h3,h4.to hq⟩
def Im (X:Nat->Prop) (w:World) (P k:Nat):Prop:=k<w.heap.size/\k≠P/\(∀v,w.cell? ⟨P,3,none⟩=some v->v.ownBlock≠some k)/\¬X k
abbrev NoX:Nat->Prop:=λ_=>False
structure Fr (n P:Nat) (w w':World):Prop where
 os:w'.os=w.os
 tape:w'.tape=w.tape
 output:w'.output=w.output
 size:w.heap.size<=w'.heap.size
 keep:∀k,k<n->Im NoX w P k->w'.heap[k]? = w.heap[k]? /\ Im NoX w' P k
theorem Im.less {X X':Nat->Prop} {w:World} {P k:Nat} (h:Im X w P k) (hx:X' k->X k):Im X' w P k:=⟨h.1,h.2.1,h.2.2.1,λq=>h.2.2.2 (hx q)⟩
theorem Im.no {X:Nat->Prop} {w:World} {P k:Nat} (h:Im X w P k):Im NoX w P k:=h.less (λq=>q.elim)
theorem Im.with {X:Nat->Prop} {w:World} {P k:Nat} (h:Im NoX w P k) (hx:¬X k):Im X w P k:=⟨h.1,h.2.1,h.2.2.1,hx⟩
theorem Im.same {X:Nat->Prop} {w w':World} {P k:Nat} (h:Im X w P k) (hs:w.heap.size<=w'.heap.size) (h3:w'.cell? ⟨P,3,none⟩=w.cell? ⟨P,3,none⟩):Im X w' P k :=
 ⟨Nat.lt_of_lt_of_le h.1 hs,h.2.1,λv hv=>h.2.2.1 v (by rw [<- h3];exact hv),h.2.2.2⟩
theorem Fr.refl (n P:Nat) (w:World):Fr n P w w:=⟨rfl,rfl,rfl,Nat.le_refl _,λk _ h=>⟨rfl,h⟩⟩
theorem Fr.trans {n P:Nat} {a b c:World} (h:Fr n P a b) (k:Fr n P b c):Fr n P a c :=
 ⟨k.os.trans h.os,k.tape.trans h.tape,k.output.trans h.output,Nat.le_trans h.size k.size,λi hi hm=>by
  obtain ⟨e1,m1⟩:=h.keep i hi hm;obtain ⟨e2,m2⟩:=k.keep i hi m1;exact ⟨e2.trans e1,m2⟩⟩
theorem Fr.mono {n m P:Nat} {a b:World} (h:Fr n P a b) (hm:m<=n):Fr m P a b:=⟨h.os,h.tape,h.output,h.size,λk hk=>h.keep k (by omega)⟩
theorem Fr.then {n m P:Nat} {a b c:World} (h:Fr n P a b) (k:Fr m P b c) (hm:n<=m):Fr n P a c:=h.trans (k.mono hm)
theorem Fr.im {n P:Nat} {a b:World} (h:Fr n P a b) {X:Nat->Prop} {k:Nat} (hk:k<n) (hm:Im X a P k):b.heap[k]? = a.heap[k]? /\ Im X b P k:=by
 obtain ⟨e,m⟩:=h.keep k hk hm.no;exact ⟨e,m.with hm.2.2.2⟩
theorem Fr.all {P:Nat} {a b:World} (h:Fr a.heap.size P a b) {X:Nat->Prop} (k:Nat) (hm:Im X a P k):b.heap[k]? = a.heap[k]? /\ Im X b P k:=h.im hm.1 hm
theorem fr_below {n P:Nat} {w w':World} (h:Below n w w') (hP:P<n):Fr n P w w' :=
 ⟨h.os,h.tape,h.output,h.size,λk hk hm=>⟨h.block k hk,hm.same h.size (World.cell?_of_block (a:=⟨P,3,none⟩) (h.block P hP))⟩⟩
theorem fr_own {n P:Nat} (w:World) (i:Nat) (hi:i≠3) (v:Value):Fr n P w (w.setCell ⟨P,i,none⟩ v) :=
 ⟨rfl,rfl,rfl,by simp [World.setCell],λk hk hm=>⟨Below.heap_setCell w ⟨P,i,none⟩ v k (by simpa using hm.2.1),hm.same (by simp [World.setCell]) (World.cell?_setCell_other w ⟨P,i,none⟩ ⟨P,3,none⟩ v (by simp only [ne_eq,Addr.mk.injEq];omega))⟩⟩
structure Pc where
 g:Nat
 off:Nat
 n:Nat
 cap:Nat
 mb:Nat
 base:Nat
 rv:Value
 N:Nms
 ty:TypeId
def Pc.row (c:Pc) (k:Nat) (sv:Value) (d:Nat):Array Value:=#[.slice (some ⟨c.g,c.off,none⟩) c.n c.cap,.int .i64 (k:Int),.map (some c.mb),sv,c.rv,.int .i64 (d:Int)]
def Pb (c:Pc) (X:Nat->Prop) (P:Nat) (w:World) (k:Nat) (sv:Value) (ts:List Tok) (st:Sts):Prop :=
 k+ts.length=c.n/\c.n<=70000/\c.n<=c.cap/\EndsT ts/\TokS (Im X w P) w c.g c.off k ts/\(∃vs,w.ownsRow c.base 43 1 sv st.length vs/\SetsS (Im X w P) w vs st)/\(sv.ownBlock≠some P)/\st.length<=60/\NmS (Im X w P) w c.mb k c.N/\c.base<=P/\∀j,X j->j<w.heap.size
def Pa (c:Pc) (X:Nat->Prop) (P:Nat) (w:World) (ts:List Tok) (st:Sts) (d:Nat):Prop :=
 ∃k sv,w.heap[P]? = some (.cells (c.row k sv d) c.ty (0,0))/\Pb c X P w k sv ts st/\d<=20
theorem own_block {w w':World} {base e size n:Nat} {v:Value} {xs:List Value} (h:w.ownsRow base e size v n xs) (hb:∀k,v.ownBlock=some k->w'.heap[k]? = w.heap[k]?):w'.ownsRow base e size v n xs:=by
 refine ⟨h.1,?_⟩;rcases h.2 with hn | ⟨g,cap,cur,rfl,hl,hgg,rest⟩
 · exact .inl hn
 · exact .inr ⟨g,cap,cur,rfl,hl,(hb g rfl).trans hgg,rest⟩
theorem Pb.to {c:Pc} {X X':Nat->Prop} {P:Nat} {w w':World} {k:Nat} {sv:Value} {ts:List Tok} {st:Sts} (h:Pb c X P w k sv ts st) (hq:∀j,Im X w P j->w'.heap[j]? = w.heap[j]? /\ Im X' w' P j) (hr:∀j,sv.ownBlock=some j->w'.heap[j]? = w.heap[j]?) (hx:∀j,X' j->j<w'.heap.size):Pb c X' P w' k sv ts st:=by
 obtain ⟨h1,h2,h3,h4,h5,⟨vs,h6,h7⟩,h8,h9,h10,h11,_⟩:=h;exact ⟨h1,h2,h3,h4,h5.to hq,⟨vs,own_block h6 hr,h7.to hq⟩,h8,h9,h10.to hq (Nat.le_refl _),h11,hx⟩
theorem Pb.bound {c:Pc} {X:Nat->Prop} {P:Nat} {w:World} {k:Nat} {sv:Value} {ts:List Tok} {st:Sts} (h:Pb c X P w k sv ts st):∀j,X j->j<w.heap.size:=by
 obtain ⟨h1,h2,h3,h4,h5,h6,h8,h9,h10,h11,h12⟩:=h;exact h12
theorem Pa.lt {c:Pc} {X:Nat->Prop} {P:Nat} {w:World} {ts:List Tok} {st:Sts} {d:Nat} (h:Pa c X P w ts st d):P<w.heap.size:=by
 obtain ⟨k,sv,h1,_⟩:=h;exact (Array.getElem?_eq_some_iff.1 h1).1
theorem row_cell {c:Pc} {P:Nat} {w:World} {k:Nat} {sv:Value} {d:Nat} (h:w.heap[P]? = some (.cells (c.row k sv d) c.ty (0,0))) (i:Nat):w.cell? ⟨P,i,none⟩=(c.row k sv d)[i]? := by
 simp [World.cell?,h]
theorem row_frozen {c:Pc} {P:Nat} {w:World} {k:Nat} {sv:Value} {d:Nat} (h:w.heap[P]? = some (.cells (c.row k sv d) c.ty (0,0))) (i:Nat):w.frozen? ⟨P,i,none⟩=false:=frozen_of_row _ _ i _ _ h
theorem Pb.row_lt {c:Pc} {X:Nat->Prop} {P:Nat} {w:World} {k:Nat} {sv:Value} {ts:List Tok} {st:Sts} (h:Pb c X P w k sv ts st):∀j,sv.ownBlock=some j->c.base<=j/\j<w.heap.size:=by
 obtain ⟨h1,h2,h3,h4,h5,⟨vs,h6,h7⟩,_⟩:=h;exact h6.lt
theorem Pa.below {c:Pc} {X:Nat->Prop} {P:Nat} {w w':World} {ts:List Tok} {st:Sts} {d:Nat} (h:Pa c X P w ts st d) (hB:Below w.heap.size w w'):Pa c X P w' ts st d:=by
 have hP:=h.lt;obtain ⟨k,sv,h1,h2,h3⟩:=h;exact ⟨k,sv,(hB.block P hP).trans h1,h2.to (λj hj=>(fr_below hB hP).all j hj) (λj hj=>hB.block j (h2.row_lt j hj).2) (λj hj=>Nat.lt_of_lt_of_le (h2.bound j hj) hB.size),h3⟩
theorem Pa.fr {c:Pc} {X:Nat->Prop} {P:Nat} {w w':World} {ts:List Tok} {st:Sts} {d:Nat} (h:Pa c X P w ts st d) (hB:Below w.heap.size w w'):Fr w.heap.size P w w':=fr_below hB h.lt
theorem Pa.less {c:Pc} {X X':Nat->Prop} {P:Nat} {w:World} {ts:List Tok} {st:Sts} {d:Nat} (h:Pa c X P w ts st d) (hx:∀k,X' k->X k):Pa c X' P w ts st d:=by
 obtain ⟨k,sv,h1,h2,h3⟩:=h;exact ⟨k,sv,h1,h2.to (λj hj=>⟨rfl,hj.less (hx j)⟩) (λ_ _=>rfl) (λj hj=>h2.bound j (hx j hj)),h3⟩
theorem Pa.alloc {c:Pc} {X:Nat->Prop} {P:Nat} {w:World} {ts:List Tok} {st:Sts} {d:Nat} (h:Pa c X P w ts st d) (o:Obj):Pa c (λk=>X k\/k=w.heap.size) P (w.alloc o) ts st d:=by
 obtain ⟨k,sv,h1,h2,h3⟩:=h.below (below_alloc w o);have hP:=h.lt;obtain ⟨k',sv',g1,g2,g3⟩:=h;have e:(w.alloc o).heap[P]? = w.heap[P]? := (below_alloc w o).block P hP;exact ⟨k',sv',e.trans g1,g2.to (λj hj=>by
  obtain ⟨e1,e2⟩:=(fr_below (below_alloc w o) hP).all j hj;exact ⟨e1,e2.no.with (λq=>q.elim e2.2.2.2 (λq=>by have:=hj.1;omega))⟩) (λj hj=>(below_alloc w o).block j (g2.row_lt j hj).2) (λj hj=>by
   rcases hj with q | q
   · have:=g2.bound j q;simp;omega
   · subst q;simp),g3⟩
theorem Pa.im_new {c:Pc} {X:Nat->Prop} {P:Nat} {w:World} {ts:List Tok} {st:Sts} {d:Nat} (h:Pa c X P w ts st d) (o:Obj):Im NoX (w.alloc o) P w.heap.size:=by
 have hP:=h.lt;obtain ⟨k,sv,h1,h2,h3⟩:=h;refine ⟨by simp,by omega,λv hv => ?_,id⟩;have e:(w.alloc o).cell? ⟨P,3,none⟩=w.cell? ⟨P,3,none⟩:=World.cell?_of_block (a:=⟨P,3,none⟩) ((below_alloc w o).block P hP);rw [e,row_cell h1 3] at hv;obtain rfl:sv=v:=by simpa [Pc.row] using hv
 intro q;have:=(h2.row_lt _ q).2;omega
theorem Pa.set {c:Pc} {X:Nat->Prop} {P:Nat} {w:World} {ts:List Tok} {st:Sts} {d:Nat} (h:Pa c X P w ts st d) {B:Nat} (hx:X B) (hB:Im NoX w P B) (i:Nat) (v:Value):Pa c X P (w.setCell ⟨B,i,none⟩ v) ts st d:=by
 have hP:=h.lt;obtain ⟨k,sv,h1,h2,h3⟩:=h;have hb:∀j,j≠B->(w.setCell ⟨B,i,none⟩ v).heap[j]? = w.heap[j]? := λj hj=>Below.heap_setCell w ⟨B,i,none⟩ v j (by simpa using hj);have h3c:(w.setCell ⟨B,i,none⟩ v).cell? ⟨P,3,none⟩=w.cell? ⟨P,3,none⟩:=World.cell?_of_block (a:=⟨P,3,none⟩) (hb P (Ne.symm hB.2.1));refine ⟨k,sv,(hb P (Ne.symm hB.2.1)).trans h1,h2.to (λj hj=>⟨hb j (λq=>hj.2.2.2 (q ▸ hx)),hj.same (by simp [World.setCell]) h3c⟩) (λj hj=>hb j (λq => ?_)) (λj hj=>by simpa [World.setCell] using h2.bound j hj),h3⟩;exact hB.2.2.1 sv (by rw [row_cell h1 3];simp [Pc.row]) (q ▸ hj)
theorem Pa.set_im {c:Pc} {X:Nat->Prop} {P:Nat} {w:World} {ts:List Tok} {st:Sts} {d:Nat} (h:Pa c X P w ts st d) {B k:Nat} (hB:Im NoX w P B) (i:Nat) (v:Value) (hk:Im X w P k):Im X (w.setCell ⟨B,i,none⟩ v) P k :=
 hk.same (by simp [World.setCell]) (World.cell?_of_block (a:=⟨P,3,none⟩) (Below.heap_setCell w ⟨B,i,none⟩ v P (by simpa using Ne.symm hB.2.1)))
theorem Pa.next {c:Pc} {X:Nat->Prop} {P:Nat} {w:World} {t:Tok} {r:List Tok} {st:Sts} {d:Nat} (h:Pa c X P w (t::r) st d) :∃(k:Nat) (v:Value),k<c.n/\c.n<=70000/\c.n<=c.cap/\w.cell? ⟨P,0,none⟩=some (.slice (some ⟨c.g,c.off,none⟩) c.n c.cap)/\w.cell? ⟨P,1,none⟩=some (.int .i64 (k:Int))/\w.frozen? ⟨P,1,none⟩=false/\c.g<w.heap.size /\
 w.cell? ⟨c.g,c.off+k*4,none⟩=some (.int .i64 t.k)/\w.cell? ⟨c.g,c.off+k*4+1,none⟩=some (.int .i64 (t.p:Int))/\w.cell? ⟨c.g,c.off+k*4+2,none⟩=some (.string (strOfNums t.t))/\w.cell? ⟨c.g,c.off+k*4+3,none⟩=some v/\RngS (Im X w P) w v t.s/\IsSet t.s/\Byt t.t/\t.t.length<=70000 /\
 (t.k≠4->Pa c X P (w.setCell ⟨P,1,none⟩ (.int .i64 ((k:Int)+1))) r st d):=by
 obtain ⟨k,sv,h1,h2,h3⟩:=h;have h2':=h2;obtain ⟨e1,e2,e3,e4,e5,e6,e7,e8,e9,e10,e11⟩:=h2;obtain ⟨q0,q1,q2,q3,⟨v,q4,q5⟩,q6,q7,q8⟩:=e5 0 (by simp);simp only [List.getElem_cons_zero,Nat.add_zero] at q1 q2 q3 q4 q5 q6 q7 q8;refine ⟨k,v,by simp at e1;omega,e2,e3,by rw [row_cell h1];rfl,by rw [row_cell h1];rfl,row_frozen h1 1,q0.1,q1,q2,q3,q4,q5,q6,q7,q8,λhk => ?_⟩;have hf:=fr_own (n:=w.heap.size) (P:=P) w 1 (by decide) (.int .i64 ((k:Int)+1));have hP:P<w.heap.size:=(Array.getElem?_eq_some_iff.1 h1).1;have hb:∀j,sv.ownBlock=some j->(w.setCell ⟨P,1,none⟩ (.int .i64 ((k:Int)+1))).heap[j]? = w.heap[j]? := λj hj=>Below.heap_setCell w ⟨P,1,none⟩ _ j (λq=>e7 (by rw [hj];exact congrArg some q));obtain ⟨_,_,_,_,f5,f6,_,_,f9,_,f11⟩:=h2'.to (λj hj=>hf.all j hj) hb (λj hj=>by simpa [World.setCell] using h2'.bound j hj);refine ⟨k+1,sv,?_,⟨by simp at e1 ⊢;omega,e2,e3,e4.tail hk,f5.tail,f6,e7,e8,f9.to (λj hj=>⟨rfl,hj⟩) (by omega),e10,f11⟩,h3⟩;rw [heap_set h1];simp [Pc.row]
theorem Pa.fresh {c:Pc} {X:Nat->Prop} {P:Nat} {w w':World} {ts:List Tok} {st:Sts} {d:Nat} (h:Pa c X P w ts st d) (hB:Below w.heap.size w w') (k:Nat) (h1:w.heap.size<=k) (h2:k<w'.heap.size):Im X w' P k:=by
 have hP:=h.lt;obtain ⟨j,sv,g1,g2,g3⟩:=h;refine ⟨h2,by omega,λv hv => ?_,λq=>by have:=g2.bound k q;omega⟩;rw [World.cell?_of_block (a:=⟨P,3,none⟩) (hB.block P hP),row_cell g1 3] at hv;obtain rfl:sv=v:=by simpa [Pc.row] using hv
 intro q;have:=(g2.row_lt _ q).2;omega
end Go.Proofs.YtfdjchnckjgapaaGreatDoor
