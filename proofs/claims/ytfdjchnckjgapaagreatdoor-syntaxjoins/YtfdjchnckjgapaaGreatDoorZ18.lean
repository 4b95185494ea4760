/-
  SevP
-/
import Derived.Test.YtfdjchnckjgapaaGreatDoorZ17
import Derived.Lib.Hide
namespace Go.Proofs.YtfdjchnckjgapaaGreatDoor
set_option maxHeartbeats 16000000
set_option maxRecDepth 100000
open Go.RowKit Go.Shelf S1
set_option linter.unusedVariables false
def sevF (m:Tok->Bool) (adv:List Tok->List Tok) (p:List Tok->Sts->NR Nd):Nat->List Nd->List Tok->Sts->NR (List Nd)
 | 0,acc,ts,st => .inr (acc,ts,st)
 | f+1,acc,ts,st=>if m (hdT ts)=true then (match p (adv ts) st with
  | .inl e => .inl e
  | .inr (n,r,st')=>sevF m adv p f (acc++[n]) r st')
  else .inr (acc,ts,st)
theorem catF_sev (p:List Tok->Sts->NR Nd):∀(f:Nat) (acc:List Nd) (ts:List Tok) (st:Sts),catF p f acc ts st=sevF tkPart id p f acc ts st
 | 0,acc,ts,st=>rfl
 | f+1,acc,ts,st=>by
  unfold catF sevF
  split
  · show (match p ts st with | .inl e=>_ | .inr (n,r,st')=>_)=(match p ts st with | .inl e=>_ | .inr (n,r,st')=>_);cases h:p ts st with
    | inl e=>rfl
    | inr x=>exact catF_sev p f _ _ _
  · rfl
theorem altF_sev (p:List Tok->Sts->NR Nd):∀(f:Nat) (acc:List Nd) (ts:List Tok) (st:Sts),altF p f acc ts st=sevF (tkSign 124) List.tail p f acc ts st
 | 0,acc,ts,st=>rfl
 | f+1,acc,ts,st=>by
  unfold altF sevF
  split
  · cases h:p ts.tail st with
    | inl e=>rfl
    | inr x=>exact altF_sev p f _ _ _
  · rfl
theorem sevF_end {m:Tok->Bool} {adv:List Tok->List Tok} {p:List Tok->Sts->NR Nd} {f:Nat} {acc:List Nd} {ts:List Tok} {st:Sts} (h:m (hdT ts)=false):sevF m adv p (f+1) acc ts st = .inr (acc,ts,st):=by
 rw [sevF,if_neg (by simp [h])]
theorem sevF_bad {m:Tok->Bool} {adv:List Tok->List Tok} {p:List Tok->Sts->NR Nd} {f:Nat} {acc:List Nd} {ts:List Tok} {st:Sts} {e:List Tok×Int} (h:m (hdT ts)=true) (h2:p (adv ts) st = .inl e):sevF m adv p (f+1) acc ts st = .inl e:=by
 rw [sevF,if_pos h,h2]
theorem sevF_on {m:Tok->Bool} {adv:List Tok->List Tok} {p:List Tok->Sts->NR Nd} {f:Nat} {acc:List Nd} {ts:List Tok} {st:Sts} {n:Nd} {r:List Tok} {st':Sts} (h:m (hdT ts)=true) (h2:p (adv ts) st = .inr (n,r,st')):sevF m adv p (f+1) acc ts st=sevF m adv p f (acc++[n]) r st':=by
 rw [sevF,if_pos h,h2]
def LA (B:Nat) (c:Pc) (X:Nat->Prop) (P:Nat) (d:Nat) (q:NR (List Nd)) (w:World) (e:Ending) (w':World):Prop :=
 ∃v l x r st,e = .returned (.tuple #[v,.int .i64 x])/\w'.ownsRow w.heap.size 39 3 v l.length (cellsNs l)/\(l=[]->v = .slice none 0 0)/\(∀g,v.ownBlock=some g->Im X w' P g)/\KidsX (λk=>w.heap.size<=k/\Im X w' P k/\v.ownBlock≠some k) w' l/\l.length<=B/\Pa c X P w' r st d/\Fr w.heap.size P w w'/\((x≠0/\q = .inl (r,x))\/(x=0/\q = .inr (l.map Prod.fst,r,st)))
abbrev XV (X:Nat->Prop) (v:Value):Nat->Prop:=λk=>X k\/v.ownBlock=some k
theorem Pa.len {c:Pc} {X:Nat->Prop} {P:Nat} {w:World} {ts:List Tok} {st:Sts} {d:Nat} (h:Pa c X P w ts st d):ts.length<=70000:=by
 obtain ⟨k,sv,h1,h2,h3⟩:=h;obtain ⟨e1,e2,_⟩:=h2;omega
theorem regrow {P:Nat} {X:Nat->Prop} {w w':World} {v v':Value} (hv:∀g,v.ownBlock=some g->Im NoX w P g) (hP:P<w.heap.size) (hg:w.grownBy w' v.ownBlock) (hn:∀g,v'.ownBlock=some g->v.ownBlock=some g\/w.heap.size<=g) :
 (∀k,Im (XV X v) w P k->w'.heap[k]? = w.heap[k]? /\ Im (XV X v') w' P k)/\w'.heap[P]? = w.heap[P]? /\ w'.cell? ⟨P,3,none⟩=w.cell? ⟨P,3,none⟩:=by
 have hPv:some P≠v.ownBlock:=λq=>(hv P q.symm).2.1 rfl;have hb:=hg.block P hP hPv;have hc:w'.cell? ⟨P,3,none⟩=w.cell? ⟨P,3,none⟩:=World.cell?_of_block (a:=⟨P,3,none⟩) hb;refine ⟨λk hk => ?_,hb,hc⟩;have hkv:v.ownBlock≠some k:=λq=>hk.2.2.2 (.inr q);refine ⟨hg.block k hk.1 (Ne.symm hkv),(hk.no.same hg.size hc).with (λq => ?_)⟩;rcases q with q | q
 · exact hk.2.2.2 (.inl q)
 · rcases hn k q with q2 | q2
   · exact hkv q2
   · have:=hk.1;omega
theorem Pa.regrow {c:Pc} {X:Nat->Prop} {P:Nat} {w w':World} {ts:List Tok} {st:Sts} {d:Nat} {v v':Value} (h:Pa c (XV X v) P w ts st d) (hv:∀g,v.ownBlock=some g->Im NoX w P g) (hg:w.grownBy w' v.ownBlock) (hn:∀g,v'.ownBlock=some g->v.ownBlock=some g\/w.heap.size<=g) (hl:∀g,v'.ownBlock=some g->g<w'.heap.size):Pa c (XV X v') P w' ts st d:=by
 have hP:=h.lt;obtain ⟨r1,r2,r3⟩:=Go.Proofs.YtfdjchnckjgapaaGreatDoor.regrow (X:=X) hv hP hg hn;obtain ⟨k,sv,h1,h2,h3⟩:=h;refine ⟨k,sv,r2.trans h1,h2.to r1 (λj hj => ?_) (λj hj => ?_),h3⟩
 · have hlt:=(h2.row_lt j hj).2;refine hg.block j hlt (λq => ?_);exact (hv j q.symm).2.2.1 sv (by rw [row_cell h1];rfl) hj
 · rcases hj with q | q
   · exact Nat.lt_of_lt_of_le (h2.bound j (.inl q)) hg.size
   · exact hl j q
theorem Tryz.infoNode8:(Tryz.prog.info? 39).map (λi=>(i.zero,i.size,i.bytes))=some (some (.agg #[.int .i64 0,.int .i64 0,.slice none 0 0]),3,40):=by kernel_rfl
theorem several_any (c:Pc) (X:Nat->Prop) (P:Nat) (w:World) (ts:List Tok) (st:Sts) (d:Nat) (g h:Nat) (bs cs:Array Value) (m:Tok->Bool) (adv:List Tok->List Tok) (p:List Tok->Sts->NR Nd)
 (eg:∀args w,(callFunc g args).run Tryz.prog w = .ok (.enter g args) w) (eh:∀args w,(callFunc h args).run Tryz.prog w = .ok (.enter h args) w) (hpa:Pa c X P w ts st d)
 (hmore:∀(Y:Nat->Prop) w1 t r st1,Pa c Y P w1 (t::r) st1 d->Fr w.heap.size P w w1->Calls Tryz.prog h (bs++cs) w1 λe w'=>e = .returned (.bool (m t))/\Pa c Y P w' (if m t=true then adv (t::r) else t::r) st1 d/\Fr w1.heap.size P w1 w')
 (hrule:∀ts st,NFn g c P ts st d (p ts st)) (hlen:∀t r st1 n r2 st2,m t=true->p (adv (t::r)) st1 = .inr (n,r2,st2)->r2.length<(t::r).length) (f:Nat) (hf0:ts.length<f) :
 Calls Tryz.prog 184 #[.func (.func g) #[.pointer (some ⟨P,0,none⟩)] #[],.func (.func h) bs cs] w λe w'=>LA 70000 c X P d (sevF m adv p f [] ts st) w e w':=by
 obtain ⟨i0,hi0,hz0,hz1,hz2⟩:=info_parts Tryz.infoNode8;obtain ⟨q,hq⟩ :∃q,q=sevF m adv p f [] ts st:=⟨_,rfl⟩;rw [<- hq];have HQ:Hid (sevF m adv p f [] ts st=q):=hq.symm;have HM:Hid (∀(Y:Nat->Prop) w1 t r st1,Pa c Y P w1 (t::r) st1 d->Fr w.heap.size P w w1->Calls Tryz.prog h (bs++cs) w1 λe w'=>e = .returned (.bool (m t))/\Pa c Y P w' (if m t=true then adv (t::r) else t::r) st1 d/\Fr w1.heap.size P w1 w'):=hmore;have HRU:Hid (∀ts st,NFn g c P ts st d (p ts st)):=hrule;have HLN:Hid (∀t r st1 n r2 st2,m t=true->p (adv (t::r)) st1 = .inr (n,r2,st2)->r2.length<(t::r).length):=hlen;have hpa0:Pa c (XV X (.slice none 0 0)) P w ts st d:=by
  obtain ⟨k,sv,h1,h2,h3⟩:=hpa;exact ⟨k,sv,h1,h2.to (λj hj=>⟨rfl,hj.less (λq=>q.elim id (λq=>by simp [Value.ownBlock] at q))⟩) (λ_ _=>rfl) (λj hj=>hj.elim (h2.bound j) (λq=>by simp [Value.ownBlock] at q)),h3⟩
 have HLT:Hid (ts.length<=70000):=hpa.len;have HPL:Hid (P<w.heap.size):=hpa.lt;clear hq hmore hrule hlen hpa;go_enter Tryz.func184,Tryz.ntmps184;go_wp2
 go_loopw [6] (λv wr=>∃(f:Nat) (l:List (Nd×Value)) (r:List Tok) (st1:Sts),r.length<f/\l.length+r.length<=ts.length/\Hid (sevF m adv p f (l.map Prod.fst) r st1=q)/\wr.ownsRow w.heap.size 39 3 v l.length (cellsNs l)/\Hid (l=[]->v = .slice none 0 0)/\Hid (∀g,v.ownBlock=some g->Im NoX wr P g/\¬X g)/\Hid (KidsX (λk=>w.heap.size<=k/\Im (XV X v) wr P k) wr l)/\Pa c (XV X v) P wr r st1 d/\Fr w.heap.size P w wr) (λ_ wr=>leftP c.n wr P)
 case atStart=>exact ⟨f,[],ts,st,hf0,by simp,HQ,World.ownsRow_nil _ _ _ _,(λ_=>rfl),(λg q=>by simp [Value.ownBlock] at q),(λx hx=>(by cases hx)),hpa0,Fr.refl _ _ _⟩
 case round =>
  obtain ⟨f,l,r,st1,hrf,hlr,HEQ,hown,HNI,HVI,HKX,hp,hfr⟩:=hrel;obtain ⟨f,rfl⟩ :∃k,f=k+1:=⟨f-1,by omega⟩;obtain ⟨t,r',rfl⟩:=hp.ends.cons;have hl0:=hp.left;have h1:=HM.out _ wr t r' st1 hp hfr;have HOW:Hid (wr.ownsRow w.heap.size 39 3 _ l.length (cellsNs l)):=hown;have HFR:Hid (Fr w.heap.size P w wr):=hfr;have HSZ:Hid (w.heap.size<=wr.heap.size):=hfr.size;clear hown hfr;cases hm:m t with
  | false =>
   rw [hm] at h1;have HE:Hid (q = .inr (l.map Prod.fst,t::r',st1)):=by
    show _=_;rw [<- HEQ.out,sevF_end hm]
   go_wp2_with fail
   refine h1.mono ?_;rintro e w1 ⟨rfl,hp1,hf1⟩;clear h1;go_wp2
   go_ret2
   refine ⟨_,l,0,t::r',st1,rfl,own_block HOW.out (λk hk=>(hf1.keep k (HVI.out k hk).1.1 (HVI.out k hk).1).1),HNI.out,λg hg=>((hf1.keep g (HVI.out g hg).1.1 (HVI.out g hg).1).2).with (HVI.out g hg).2,?_,by have:=HLT.out;omega,hp1.less (λk hk => .inl hk),HFR.out.then hf1 HSZ.out,.inr ⟨rfl,HE.out⟩⟩;exact HKX.out.to (λk hk=>by
    obtain ⟨g1,g2⟩:=hf1.all k hk.2;exact ⟨g1,hk.1,g2.less (λq => .inl q),λq=>g2.2.2.2 (.inr q)⟩)
  | true =>
   rw [hm] at h1;have HMT:Hid (m t=true):=hm
   go_wp2_with fail
   refine h1.mono ?_;rintro e w1 ⟨rfl,hp1,hf1⟩;clear h1 hm;have h2:=HRU.out (adv (t::r')) st1 _ w1 hp1;have HF1:Hid (Fr wr.heap.size P wr w1):=hf1;clear hf1 hp1 hp
   go_wp2_with fail
   refine h2.mono ?_;rintro e w2 ⟨n,z,x,r2,st2,rfl,hz,hp2,hf2,hq2⟩;obtain ⟨za,zc,rfl,_⟩:=hz.slice;unfold ndV;have hf12:=HF1.out.then hf2 HF1.out.size
   have HF02:Hid (Fr w.heap.size P w w2):=HFR.out.then hf12 HSZ.out
   have hszw2:w.heap.size<=w2.heap.size:=HF02.out.size;rcases hq2 with ⟨hx,hpq⟩ | ⟨rfl,hpq⟩
   · have hx':(x != 0)=true:=by simpa using hx
     have HE:Hid (q = .inl (r2,x)):=by
      show _=_;rw [<- HEQ.out];exact sevF_bad HMT.out hpq
     have HX:Hid (x≠0):=hx;have hB3:=below_alloc w2 (.cells #[.int .i64 n.k,.int .i64 n.s,.slice za n.kids.length zc] 39);have HP3:Hid (Pa c X P (w2.alloc (.cells #[.int .i64 n.k,.int .i64 n.s,.slice za n.kids.length zc] 39)) r2 st2 d):=(hp2.below hB3).less (λk hk => .inl hk);have HF3:Hid (Fr w.heap.size P w (w2.alloc (.cells #[.int .i64 n.k,.int .i64 n.s,.slice za n.kids.length zc] 39))):=HF02.out.then (hp2.fr hB3) hszw2
     clear h2 hx hpq hz hp2 hf2 hf12 hB3;go_wp2
     go_ret2
     exact ⟨.slice none 0 0,[],x,r2,st2,rfl,World.ownsRow_nil _ _ _ _,(λ_=>rfl),(λg q=>by simp [Value.ownBlock] at q),(λx hx=>(by cases hx)),by simp,HP3.out,HF3.out,.inl ⟨HX.out,HE.out⟩⟩
   · have hlen:=HLN.out t r' st1 n r2 st2 HMT.out hpq;have HE:Hid (sevF m adv p f ((l++[(n,Value.slice za n.kids.length zc)]).map Prod.fst) r2 st2=q):=by
      show _=_;rw [<- HEQ.out,sevF_on HMT.out hpq];simp
     have hB3:=below_after (below_alloc w2 (.cells #[.int .i64 n.k,.int .i64 n.s,.slice za n.kids.length zc] 39)) (below_alloc (w2.alloc (.cells #[.int .i64 n.k,.int .i64 n.s,.slice za n.kids.length zc] 39)) (.cells #[.int .i64 n.k,.int .i64 n.s,.slice za n.kids.length zc] 39));have hsz4:((w2.alloc (.cells #[.int .i64 n.k,.int .i64 n.s,.slice za n.kids.length zc] 39)).alloc (.cells #[.int .i64 n.k,.int .i64 n.s,.slice za n.kids.length zc] 39)).heap.size=w2.heap.size+2:=by simp
     have hp4:=hp2.below hB3;have hfr4:=hp2.fr hB3;have HVI4:Hid (∀g,Value.ownBlock u6=some g->Im NoX ((w2.alloc (.cells #[.int .i64 n.k,.int .i64 n.s,.slice za n.kids.length zc] 39)).alloc (.cells #[.int .i64 n.k,.int .i64 n.s,.slice za n.kids.length zc] 39)) P g/\¬X g):=λg hg=>by
      obtain ⟨q1,q2⟩:=HVI.out g hg;exact ⟨(hfr4.keep g (hf12.keep g q1.1 q1).2.1 (hf12.keep g q1.1 q1).2).2,q2⟩
     have HOW4:Hid (((w2.alloc (.cells #[.int .i64 n.k,.int .i64 n.s,.slice za n.kids.length zc] 39)).alloc (.cells #[.int .i64 n.k,.int .i64 n.s,.slice za n.kids.length zc] 39)).ownsRow w.heap.size 39 3 u6 l.length (cellsNs l)):=own_block HOW.out (λk hk=>by
      obtain ⟨q1,q2⟩:=HVI.out k hk;obtain ⟨g1,g2⟩:=hf12.keep k q1.1 q1;exact ((hfr4.keep k g2.1 g2).1).trans g1)
     have HN4:Hid (((w2.alloc (.cells #[.int .i64 n.k,.int .i64 n.s,.slice za n.kids.length zc] 39)).alloc (.cells #[.int .i64 n.k,.int .i64 n.s,.slice za n.kids.length zc] 39)).heap[w2.heap.size+1]? = some (.cells #[.int .i64 n.k,.int .i64 n.s,.slice za n.kids.length zc] 39 (0,0))):=by
      have:=heap_new' (w2.alloc (.cells #[.int .i64 n.k,.int .i64 n.s,.slice za n.kids.length zc] 39)) (.cells #[.int .i64 n.k,.int .i64 n.s,.slice za n.kids.length zc] 39);rw [World.size_alloc] at this;exact this
     have HP4:Hid (Pa c (XV X u6) P ((w2.alloc (.cells #[.int .i64 n.k,.int .i64 n.s,.slice za n.kids.length zc] 39)).alloc (.cells #[.int .i64 n.k,.int .i64 n.s,.slice za n.kids.length zc] 39)) r2 st2 d):=hp4;have HF4:Hid (Fr w.heap.size P w ((w2.alloc (.cells #[.int .i64 n.k,.int .i64 n.s,.slice za n.kids.length zc] 39)).alloc (.cells #[.int .i64 n.k,.int .i64 n.s,.slice za n.kids.length zc] 39))):=HF02.out.then hfr4 hszw2
     have HKX4:Hid (KidsX (λk=>w.heap.size<=k/\Im (XV X u6) ((w2.alloc (.cells #[.int .i64 n.k,.int .i64 n.s,.slice za n.kids.length zc] 39)).alloc (.cells #[.int .i64 n.k,.int .i64 n.s,.slice za n.kids.length zc] 39)) P k) ((w2.alloc (.cells #[.int .i64 n.k,.int .i64 n.s,.slice za n.kids.length zc] 39)).alloc (.cells #[.int .i64 n.k,.int .i64 n.s,.slice za n.kids.length zc] 39)) (l++[(n,Value.slice za n.kids.length zc)])):=λy hy=>by
      rcases List.mem_append.1 hy with hy | hy
      · exact (HKX.out y hy).to (λk hk=>by
         obtain ⟨g1,g2⟩:=hf12.all k hk.2;obtain ⟨g3,g4⟩:=hfr4.all k g2;exact ⟨g3.trans g1,hk.1,g4⟩)
      · obtain rfl:y=(n,Value.slice za n.kids.length zc):=by simpa using hy
        exact hz.to (λk hk=>by
         obtain ⟨g3,g4⟩:=hfr4.all k hk.2;exact ⟨g3,by have:=hk.1;have:=HF1.out.size;have:=HSZ.out;omega,g4⟩)
     have HSZ4:Hid (((w2.alloc (.cells #[.int .i64 n.k,.int .i64 n.s,.slice za n.kids.length zc] 39)).alloc (.cells #[.int .i64 n.k,.int .i64 n.s,.slice za n.kids.length zc] 39)).heap.size=w2.heap.size+2):=hsz4;have HLL:Hid (l.length+1+r2.length<=ts.length/\r2.length<f/\r2.length<r'.length+1):=by
      simp at hlen hlr hrf;exact ⟨by omega,by omega,hlen⟩
     have HLB:Hid (l.length+1<=70000):=by have:=HLL.out.1;have:=HLT.out;show _<=_;omega
     have hlB:l.length+1<=70000:=HLB.out;clear h2 hz hp2 hf2 hf12 hB3 hp4 hfr4 hsz4 hpq hlen hlr hrf HOW HVI HKX HEQ HF02
     go_wp2_with (at_builtin;go_must (refine wpList_append_lies _ rfl (.tmp 19) (.tmp 21) 37 rfl w.heap.size 39 i0 (.agg #[.int .i64 0,.int .i64 0,.slice none 0 0]) 3 40 Tryz.underlying37 hi0 hz0 hz1 hz2 rfl (by decide) _ _ _ rfl HOW4.out ⟨w2.heap.size+1,0,none⟩ 1 1 (cellsN (n,.slice za n.kids.length zc)) rfl rfl (World.news_of_block HN4.out) (by simp [cellsN,Value.oneCell']) (by omega) (by unfold maxLen;omega) (by omega) (by rw [HSZ4.out];omega) _ rfl ?_);intro g2 cap2 w5 hown5 hgrow5 hat5 hlt5;refine Hid.out ?_)
     refine Lib.hid ?_;have hown6:w5.ownsRow w.heap.size 39 3 (.slice (some ⟨g2,0,none⟩) (l.length+1) cap2) (l++[(n,Value.slice za n.kids.length zc)]).length (cellsNs (l++[(n,.slice za n.kids.length zc)])):=by rw [cellsNs_snoc];simpa using hown5
     have hn6:∀g,(Value.slice (some ⟨g2,0,none⟩) (l.length+1) cap2).ownBlock=some g->Value.ownBlock u6=some g\/((w2.alloc (.cells #[.int .i64 n.k,.int .i64 n.s,.slice za n.kids.length zc] 39)).alloc (.cells #[.int .i64 n.k,.int .i64 n.s,.slice za n.kids.length zc] 39)).heap.size<=g:=λg hg=>by
      obtain rfl:g2=g:=by simpa [Value.ownBlock] using hg
      rcases hat5 with q | q
      · exact .inl q
      · exact .inr (by rw [q];exact Nat.le_refl _)
     have hp6:=HP4.out.regrow (v' := .slice (some ⟨g2,0,none⟩) (l.length+1) cap2) (λg hg=>(HVI4.out g hg).1) hgrow5 hn6 (λg hg=>(show g2=g by simpa [Value.ownBlock] using hg) ▸ hlt5);obtain ⟨rg1,rg2,rg3⟩:=regrow (X:=X) (v' := .slice (some ⟨g2,0,none⟩) (l.length+1) cap2) (λg hg=>(HVI4.out g hg).1) HP4.out.lt hgrow5 hn6;have hkx6:=HKX4.out.to (Q':=λk=>w.heap.size<=k/\Im (XV X (.slice (some ⟨g2,0,none⟩) (l.length+1) cap2)) w5 P k) (λk hk=>⟨(rg1 k hk.2).1,hk.1,(rg1 k hk.2).2⟩);have hvi6:∀g,(Value.slice (some ⟨g2,0,none⟩) (l.length+1) cap2).ownBlock=some g->Im NoX w5 P g/\¬X g:=λg hg=>by
      obtain rfl:g2=g:=by simpa [Value.ownBlock] using hg
      rcases hat5 with q | q
      · exact ⟨(HVI4.out g2 q).1.same hgrow5.size rg3,(HVI4.out g2 q).2⟩
      · have hPl4:=HP4.out.lt;refine ⟨⟨hlt5,by omega,λx hx => ?_,id⟩,λhX => ?_⟩
        · rw [rg3] at hx;obtain ⟨k,sv,e1,e2,_⟩:=HP4.out;rw [row_cell e1] at hx;obtain rfl:sv=x:=by simpa [Pc.row] using hx
          intro q2;have:=(e2.row_lt _ q2).2;omega
        · obtain ⟨k,sv,e1,e2,_⟩:=HP4.out;have:=e2.bound g2 (.inl hX);omega
     have hfr6:Fr w.heap.size P w w5:=⟨hgrow5.os.trans HF4.out.os,hgrow5.tape.trans HF4.out.tape,hgrow5.output.trans HF4.out.output,Nat.le_trans HF4.out.size hgrow5.size,λk hk hm=>by
      obtain ⟨e1,e2⟩:=HF4.out.keep k hk hm;have hne:Value.ownBlock u6≠some k:=λq=>by have:=(HOW4.out.lt k q).1;omega
      exact ⟨(hgrow5.block k e2.1 (Ne.symm hne)).trans e1,e2.same hgrow5.size rg3⟩⟩
     have HOW6:Hid (w5.ownsRow w.heap.size 39 3 (.slice (some ⟨g2,0,none⟩) (l.length+1) cap2) (l++[(n,Value.slice za n.kids.length zc)]).length (cellsNs (l++[(n,.slice za n.kids.length zc)]))):=hown6;have HKX6:Hid (KidsX (λk=>w.heap.size<=k/\Im (XV X (.slice (some ⟨g2,0,none⟩) (l.length+1) cap2)) w5 P k) w5 (l++[(n,Value.slice za n.kids.length zc)])):=hkx6;have HVI6:Hid (∀g,(Value.slice (some ⟨g2,0,none⟩) (l.length+1) cap2).ownBlock=some g->Im NoX w5 P g/\¬X g):=hvi6;have HNI6:Hid (l++[(n,Value.slice za n.kids.length zc)]=[]->Value.slice (some ⟨g2,0,none⟩) (l.length+1) cap2 = .slice none 0 0):=λq=>by simp at q
     clear hown5 hgrow5 hat5 hlt5 hown6 hn6 rg1 rg2 rg3 hkx6 hvi6 HKX4 HVI4 HOW4 HN4 HF4 HP4 HSZ4;go_wp2
     go_roundw
     case rel=>exact ⟨f,l++[(n,.slice za n.kids.length zc)],r2,st2,HLL.out.2.1,by have:=HLL.out.1;simp;omega,HE,HOW6.out,HNI6,HVI6,HKX6,hp6,hfr6⟩
     case measure=>rw [hp6.left,hl0];have:=HLL.out.2.2;simp;omega
end Go.Proofs.YtfdjchnckjgapaaGreatDoor
