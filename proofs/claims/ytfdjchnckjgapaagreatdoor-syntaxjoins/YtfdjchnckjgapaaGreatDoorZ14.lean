/-
  SumP2 EqP
-/
import Derived.Test.YtfdjchnckjgapaaGreatDoorZ13
import Derived.Laws.StructEq
namespace Go.Proofs.YtfdjchnckjgapaaGreatDoor
set_option maxHeartbeats 8000000
set_option maxRecDepth 100000
open Go.RowKit Go.Shelf S1
set_option linter.unusedVariables false
theorem IsSet.fits {a:List Rg} (h:IsSet a):Fits a:=λr hr=>by
 have h1:=h.2 r hr;have h2:hasR a r.lo=true/\r.lo<=r.hi:=by
  have:∀ {l:List Rg} {b:Int},NormFrom b l->r∈l->r.lo<=r.hi:=by
   intro l
   induction l with
   | nil=>intro b _ h;cases h
   | cons x l ih =>
    intro b hn h;rcases List.mem_cons.1 h with rfl | h
    · exact hn.2.1
    · exact ih hn.2.2 h
  have h3:=this h.1 hr;exact ⟨hasR_iff.2 ⟨r,hr,by omega,h3⟩,h3⟩
 have h4:=h.1.ge h2.1;exact ⟨h4,h2.2,h1⟩
theorem pickS_upto (g:Bool->Bool->Bool) {a b:List Rg} (ha:IsSet a) (hb:IsSet b):Upto (λx=>g (hasR a x) (hasR b x)) (pickS g a b) 1114112:=pick_spec a b ha.fits hb.fits g
def JoinF (g:Nat) (op:List Rg->List Rg->List Rg):Prop:=(∀args w,(callFunc g args).run Tryz.prog w = .ok (.enter g args) w)/\∀(a b:List Rg) (va vb:Value) (w:World),IsSet a->IsSet b->RngIn w va a->RngIn w vb b->Calls Tryz.prog g #[va,vb] w λe w'=>∃v,e = .returned v/\IsSet (op a b)/\w'.ownsRow w.heap.size 94 2 v (op a b).length (cellsRs (op a b))/\Below w.heap.size w w'
theorem joinOr:JoinF 181 orS:=⟨enters_of Tryz.func181 (by kernel_rfl) rfl,λa b va vb w ha hb hva hvb=>(or_any a b ha hb va vb w hva hvb).mono (by
 rintro e w' ⟨l,v,rfl,hu,ho,hB⟩;obtain rfl:l=orS a b:=hu.unique (pickS_upto _ ha hb);exact ⟨v,rfl,hu.isSet,ho,hB⟩)⟩
theorem joinLess:JoinF 182 lessS:=⟨enters_of Tryz.func182 (by kernel_rfl) rfl,λa b va vb w ha hb hva hvb=>(less_any a b ha hb va vb w hva hvb).mono (by
 rintro e w' ⟨l,v,rfl,hu,ho,hB⟩;obtain rfl:l=lessS a b:=hu.unique (pickS_upto _ ha hb);exact ⟨v,rfl,hu.isSet,ho,hB⟩)⟩
theorem joinAnd:JoinF 183 andS:=⟨enters_of Tryz.func183 (by kernel_rfl) rfl,λa b va vb w ha hb hva hvb=>(and_any a b ha hb va vb w hva hvb).mono (by
 rintro e w' ⟨l,v,rfl,hu,ho,hB⟩;obtain rfl:l=andS a b:=hu.unique (pickS_upto _ ha hb);exact ⟨v,rfl,hu.isSet,ho,hB⟩)⟩
theorem eql_func_nil (w:World) (g:Nat):(binOp .eql 131 (.func (.func g) #[] #[]) .nilFunc).run Tryz.prog w = .ok (.bool false) w:=by
 have h:(Op.equalIn (9999+1) 131 (.func (.func g) #[] #[]) .nilFunc).run Tryz.prog w = .ok false w:=by
  unfold Op.equalIn;simp [run_underlying Tryz.underlying131]
 simp only [binOp];simp [Op.equal,Op.maxDepth,h]
theorem eql_nil_nil (w:World):(binOp .eql 131 .nilFunc .nilFunc).run Tryz.prog w = .ok (.bool true) w:=by
 have h:(Op.equalIn (9999+1) 131 .nilFunc .nilFunc).run Tryz.prog w = .ok true w:=by
  unfold Op.equalIn;simp [run_underlying Tryz.underlying131]
 simp only [binOp];simp [Op.equal,Op.maxDepth,h]
def JntA (c:Pc) (X:Nat->Prop) (P:Nat) (t:Tok) (r:List Tok) (st:Sts) (d:Nat) (w:World) (e:Ending) (w':World):Prop :=
 Fr w.heap.size P w w'/\((opOf t=none/\e = .returned .nilFunc/\Pa c X P w' (t::r) st d)\/∃g op,opOf t=some op/\e = .returned (.func (.func g) #[] #[])/\Pa c X P w' r st d/\JoinF g op)
theorem joint_ans (c:Pc) (X:Nat->Prop) (P:Nat) (w:World) (t:Tok) (r:List Tok) (st:Sts) (d:Nat) (hpa:Pa c X P w (t::r) st d) :
 Calls Tryz.prog 144 #[.pointer (some ⟨P,0,none⟩)] w λe w'=>JntA c X P t r st d w e w':=by
 have h1:Calls Tryz.prog 115 #[.pointer (some ⟨P,0,none⟩),.string ⟨#[43]⟩] w λe w'=>e = .returned (.bool (tkSign 43 t))/\Pa c X P w' (if tkSign 43 t=true then r else t::r) st d/\Fr w.heap.size P w w':=takesSign_ans c X P w t r st d hpa 43 (by decide);obtain ⟨o,ho⟩ :∃o,o=opOf t:=⟨_,rfl⟩;have HO:Hid (opOf t=o):=ho.symm;clear ho hpa;go_enter Tryz.func144,Tryz.ntmps144;cases h2:tkSign 43 t with
 | true =>
  rw [h2] at h1;have HE:Hid (opOf t=some orS):=by
   show _=_;simp [opOf,h2]
  go_wp2_with fail
  refine h1.mono ?_;rintro e w1 ⟨rfl,hp1,hf1⟩;clear h1;go_wp2;go_ret;exact ⟨hf1,.inr ⟨_,_,HE.out,rfl,hp1,joinOr⟩⟩
 | false =>
  rw [h2] at h1
  go_wp2_with fail
  refine h1.mono ?_;rintro e w1 ⟨rfl,hp1,hf1⟩;clear h1;have h3:Calls Tryz.prog 115 #[.pointer (some ⟨P,0,none⟩),.string ⟨#[45]⟩] w1 λe w'=>e = .returned (.bool (tkSign 45 t))/\Pa c X P w' (if tkSign 45 t=true then r else t::r) st d/\Fr w1.heap.size P w1 w':=takesSign_ans c X P w1 t r st d hp1 45 (by decide);cases h4:tkSign 45 t with
  | true =>
   rw [h4] at h3;have HE:Hid (opOf t=some lessS):=by
    show _=_;simp [opOf,h2,h4]
   go_wp2_with fail
   refine h3.mono ?_;rintro e w2 ⟨rfl,hp2,hf2⟩;clear h3;go_wp2;go_ret;exact ⟨hf1.then hf2 hf1.size,.inr ⟨_,_,HE.out,rfl,hp2,joinLess⟩⟩
  | false =>
   rw [h4] at h3
   go_wp2_with fail
   refine h3.mono ?_;rintro e w2 ⟨rfl,hp2,hf2⟩;clear h3;have hf12:=hf1.then hf2 hf1.size
   have h5:Calls Tryz.prog 115 #[.pointer (some ⟨P,0,none⟩),.string ⟨#[38]⟩] w2 λe w'=>e = .returned (.bool (tkSign 38 t))/\Pa c X P w' (if tkSign 38 t=true then r else t::r) st d/\Fr w2.heap.size P w2 w':=takesSign_ans c X P w2 t r st d hp2 38 (by decide);cases h6:tkSign 38 t with
   | true =>
    rw [h6] at h5;have HE:Hid (opOf t=some andS):=by
     show _=_;simp [opOf,h2,h4,h6]
    go_wp2_with fail
    refine h5.mono ?_;rintro e w3 ⟨rfl,hp3,hf3⟩;clear h5;go_wp2;go_ret;exact ⟨hf12.then hf3 hf12.size,.inr ⟨_,_,HE.out,rfl,hp3,joinAnd⟩⟩
   | false =>
    rw [h6] at h5;have HE:Hid (opOf t=none):=by
     show _=_;simp [opOf,h2,h4,h6]
    go_wp2_with fail
    refine h5.mono ?_;rintro e w3 ⟨rfl,hp3,hf3⟩;clear h5;go_wp2;go_ret;exact ⟨hf12.then hf3 hf12.size,.inl ⟨HE.out,rfl,hp3⟩⟩
def TermC (b:Nat):Prop:=∀(c:Pc) (X:Nat->Prop) (P:Nat) (w:World) (ts:List Tok) (st:Sts) (d:Nat),d+b=20->Pa c X P w ts st d->Calls Tryz.prog 143 #[.pointer (some ⟨P,0,none⟩)] w λe w'=>QA c X P st d (termM c.N b ts) w e w'
def SumC (b:Nat):Prop:=∀(c:Pc) (X:Nat->Prop) (P:Nat) (w:World) (ts:List Tok) (st:Sts) (d:Nat),d+b=20->Pa c X P w ts st d->Calls Tryz.prog 117 #[.pointer (some ⟨P,0,none⟩)] w λe w'=>QA c X P st d (sumM c.N b ts) w e w'
theorem Pa.rngS {c:Pc} {X:Nat->Prop} {P:Nat} {w w':World} {ts:List Tok} {st:Sts} {d:Nat} {v:Value} {l:List Rg} (h:Pa c X P w ts st d) (hB:Below w.heap.size w w') (ho:w'.ownsRow w.heap.size 94 2 v l.length (cellsRs l)):RngS (Im X w' P) w' v l:=rngS_of_row ho (λk h1 h2=>h.fresh hB k h1 h2)
theorem sum_of_term (b:Nat) (ht:TermC b):SumC b:=λc X P w ts st d hdb hpa=>by
 have h1:=ht c X P w ts st d hdb hpa;obtain ⟨q,hq⟩ :∃q,q=sumM c.N b ts:=⟨_,rfl⟩;rw [<- hq];have HQ:Hid (q=sumG (termM c.N b) ts):=hq;have HT:Hid (TermC b):=ht;clear hq hpa ht;go_enter Tryz.func117,Tryz.ntmps117
 go_wp2_with fail
 refine h1.mono ?_;rintro e w1 ⟨v,s,x,r,rfl,hs,hr,hp,hf,hx⟩;have hsz:=hf.size;have HX:Hid ((x≠0/\q = .inl (r,x))\/(x=0/\∃k,r.length<k/\sumF (termM c.N b) k s r=q)):=by
  rcases hx with ⟨e1,e2⟩ | ⟨e1,e2⟩
  · refine .inl ⟨e1,?_⟩;rw [HQ.out];unfold sumG;rw [e2]
  · refine .inr ⟨e1,r.length+1,by omega,?_⟩;rw [HQ.out];unfold sumG;rw [e2]
 obtain ⟨va,vc,rfl⟩:=hr.slice;have HR:Hid (RngS (Im X w1 P) w1 (.slice va s.length vc) s):=hr;clear h1 hx hr;go_wp2
 go_loopw [4,5] (λv xe wr=>∃(a:Option Addr) (cp:Nat) (x:Int) (s:List Rg) (r:List Tok),xe = .int .i64 x/\v = .slice a s.length cp/\IsSet s/\RngS (Im X wr P) wr (.slice a s.length cp) s/\Pa c X P wr r st d/\Fr w.heap.size P w wr/\Hid ((x≠0/\q = .inl (r,x))\/(x=0/\∃k,r.length<k/\sumF (termM c.N b) k s r=q))) (λ_ _ wr=>leftP c.n wr P)
 case atStart=>exact ⟨va,vc,x,s,r,rfl,rfl,hs,HR.out,hp,hf,HX⟩
 case round =>
  obtain ⟨a,cp,x,s,r,rfl,rfl,hs,hr,hp,hf,hx⟩:=hrel;have hl0:=hp.left;have HS:Hid (IsSet s):=hs;have HR:Hid (RngS (Im X wr P) wr (.slice a s.length cp) s):=hr;have HF:Hid (Fr w.heap.size P w wr):=hf;clear hs hr;rcases hx.out with ⟨hx0,hxq⟩ | ⟨rfl,k,hk,hkq⟩
  · have hx':(x==0)=false:=by simpa using hx0
    have HE:Hid (x≠0/\q = .inl (r,x)):=⟨hx0,hxq⟩;clear hx0 hxq hx;go_wp2
    go_ret2
    exact ⟨_,s,x,r,rfl,HS.out,HR.out,hp,HF.out,.inl HE.out⟩
  · obtain ⟨t,r',rfl⟩:=hp.ends.cons;obtain ⟨k,rfl⟩ :∃m,k=m+1:=⟨k-1,by omega⟩;have HKQ:Hid (sumF (termM c.N b) (k+1) s (t::r')=q):=hkq;have HK:Hid ((t::r').length<k+1):=hk;clear hx hkq hk;have h2:=joint_ans c X P wr t r' st d hp
    go_wp2_with fail
    refine h2.mono ?_;rintro e w2 ⟨hf2,⟨ho,rfl,hp2⟩ | ⟨g,op,ho,rfl,hp2,hg,hj⟩⟩
    · have HE:Hid (q = .inr (s,t::r')):=by
       show _=_;rw [<- HKQ.out];unfold sumF;simp only [hdT,ho]
      clear ho h2;have hnn:=eql_nil_nil w2;go_wp2
      go_ret2
      exact ⟨_,s,0,t::r',rfl,HS.out,HR.out.fr hf2,hp2,HF.out.then hf2 HF.out.size,.inr ⟨rfl,HE.out⟩⟩
    · have h3:=HT.out c X P w2 r' st d hdb hp2;have HJ:Hid (∀(a b:List Rg) (va vb:Value) (w:World),IsSet a->IsSet b->RngIn w va a->RngIn w vb b->Calls Tryz.prog g #[va,vb] w λe w'=>∃v,e = .returned v/\IsSet (op a b)/\w'.ownsRow w.heap.size 94 2 v (op a b).length (cellsRs (op a b))/\Below w.heap.size w w'):=hj;have HO:Hid (opOf t=some op):=ho;have HF2:Hid (Fr wr.heap.size P wr w2):=hf2;clear h2 hj ho hf2;have hnn:=eql_func_nil w2 g
      go_wp2_with fail
      refine h3.mono ?_;rintro e w3 ⟨v3,s3,x3,r3,rfl,hs3,hr3,hp3,hf3,hq3⟩;have hf23:=HF2.out.then hf3 HF2.out.size
      have h4:=HJ.out s s3 (.slice a s.length cp) v3 w3 HS.out hs3 ((HR.out.fr hf23).rng (λk hk=>hk.1)) (hr3.rng (λk hk=>hk.1));obtain ⟨va3,vc3,rfl⟩:=hr3.slice;have hlr:r3.length<=r'.length/\((x3≠0/\q = .inl (r3,x3))\/(x3=0/\∃k,r3.length<k/\sumF (termM c.N b) k (op s s3) r3=q)):=by
       have hL:=termM_left c.N b r';have e0:=HKQ.out;unfold sumF at e0;simp only [hdT,HO.out,List.tail_cons] at e0;have hkk:=HK.out;simp at hkk;rcases hq3 with ⟨q1,q2⟩ | ⟨q1,q2⟩
       · rw [q2] at hL e0;exact ⟨hL.1,.inl ⟨q1,e0.symm⟩⟩
       · rw [q2] at hL e0;exact ⟨Nat.le_of_lt hL.1,.inr ⟨q1,k,by have:=hL.1;omega,e0⟩⟩
      have HLR:Hid (r3.length<=r'.length/\((x3≠0/\q = .inl (r3,x3))\/(x3=0/\∃k,r3.length<k/\sumF (termM c.N b) k (op s s3) r3=q))):=hlr;have HF3:Hid (Fr w.heap.size P w w3):=HF.out.then hf23 HF.out.size
      clear h3 hr3 hs3 hf3 hq3 hf23 hlr
      go_wp2_with fail
      refine h4.mono ?_;rintro e w4 ⟨v4,rfl,hs4,ho4,hB4⟩;have hr4:=hp3.rngS hB4 ho4;have hp4:=hp3.below hB4;have hf4:=HF3.out.then (hp3.fr hB4) HF3.out.size
      obtain ⟨va4,vc4,rfl⟩:=hr4.slice;clear h4 ho4;go_wp2
      go_roundw
      case rel=>exact ⟨va4,vc4,x3,op s s3,r3,rfl,rfl,hs4,hr4,hp4,hf4,HLR.out.2⟩
      case measure=>rw [hp4.left,hl0];have:=HLR.out.1;simp;omega
theorem bracketR_full (c:Pc) (X:Nat->Prop) (P:Nat) (w:World) (ts:List Tok) (st:Sts) (hpa:Pa c X P w ts st 20) :
 Calls Tryz.prog 179 #[.pointer (some ⟨P,0,none⟩),.func (.func 117) #[.pointer (some ⟨P,0,none⟩)] #[]] w λe w'=>QA c X P st 20 (.inl (ts,3)) w e w':=by
 have HP:Hid (Pa c X P w ts st 20):=hpa;have hPl:=hpa.lt;clear hpa;go_enter Tryz.func179,Tryz.ntmps179
 go_wp2_with fail
 have hB:Below w.heap.size w ((w.alloc (.cells #[.pointer (some ⟨P,0,none⟩)] 79)).alloc (.cells #[.func (.func 117) #[.pointer (some ⟨P,0,none⟩)] #[]] 152)):=below_after (below_alloc _ _) (below_alloc _ _);have hsz:((w.alloc (.cells #[.pointer (some ⟨P,0,none⟩)] 79)).alloc (.cells #[.func (.func 117) #[.pointer (some ⟨P,0,none⟩)] #[]] 152)).heap.size=w.heap.size+2:=by simp
 have h1:=deeperR_full c X P _ ts st 206 #[] #[.pointer (some ⟨w.heap.size,0,none⟩),.pointer (some ⟨w.heap.size+1,0,none⟩)] (HP.out.below hB);refine h1.mono ?_;rintro e w2 ⟨v,s,y,r2,rfl,hs,hr,hp,hf,hq⟩;have HF:Hid (Fr w.heap.size P w w2):=(HP.out.fr hB).then hf (by omega)
 clear h1 hB;go_wp2
 go_ret2
 exact ⟨_,s,y,r2,rfl,hs,hr,hp,HF.out,hq⟩
theorem notS_upto {a:List Rg} (ha:IsSet a):Upto (λx => !hasR a x) (notS a) 1114112:=pickS_upto (λx _ => !x) ha IsSet.nil
theorem term_step (b:Nat) (hin:∀(c:Pc) (X:Nat->Prop) (P:Nat) (w:World) (t:Tok) (r:List Tok) (st:Sts) (d:Nat),d+b=20->Pa c X P w (t::r) st d->t.k≠4 ->
 (tkSign 126 t=true->Calls Tryz.prog 177 #[.pointer (some ⟨P,0,none⟩),.func (.func 143) #[.pointer (some ⟨P,0,none⟩)] #[]] w λe w'=>QA c X P st d (match innerT c.N b with | none => .inl (t::r,3) | some f=>f r) w e w') /\
 (tkSign 126 t=false->tkSign 40 t=true->Calls Tryz.prog 179 #[.pointer (some ⟨P,0,none⟩),.func (.func 117) #[.pointer (some ⟨P,0,none⟩)] #[]] w λe w'=>QA c X P st d (termM c.N b (t::r)) w e w')):TermC b:=λc X P w ts st d hdb hpa=>by
 obtain ⟨t,r,rfl⟩:=hpa.ends.cons;have h1:Calls Tryz.prog 142 #[.pointer (some ⟨P,0,none⟩),.string ⟨#[126]⟩] w λe w'=>AnsB w (tkSign 126 t) e w':=isSign_ans c X P w t r st d hpa 126 (by decide);obtain ⟨q,hq⟩ :∃q,q=termM c.N b (t::r):=⟨_,rfl⟩;have HQ:Hid (q=termG c.N (innerT c.N b) (t::r)):=hq.trans (termM_eq _ _ _);have HIN:Hid (∀(w:World),Pa c X P w (t::r) st d->t.k≠4 ->
  (tkSign 126 t=true->Calls Tryz.prog 177 #[.pointer (some ⟨P,0,none⟩),.func (.func 143) #[.pointer (some ⟨P,0,none⟩)] #[]] w λe w'=>QA c X P st d (match innerT c.N b with | none => .inl (t::r,3) | some f=>f r) w e w') /\
  (tkSign 126 t=false->tkSign 40 t=true->Calls Tryz.prog 179 #[.pointer (some ⟨P,0,none⟩),.func (.func 117) #[.pointer (some ⟨P,0,none⟩)] #[]] w λe w'=>QA c X P st d q w e w')):=by
  rw [hq];exact λw hp hk=>hin c X P w t r st d hdb hp hk
 rw [<- hq];have HP:Hid (Pa c X P w (t::r) st d):=hpa;clear hq hpa hin;go_enter Tryz.func143,Tryz.ntmps143;cases h2:tkSign 126 t with
 | true =>
  rw [h2] at h1
  go_wp2_with fail
  refine h1.mono ?_;rintro e w1 ⟨rfl,hB1⟩;clear h1;have h3:=(HIN.out w1 (HP.out.below hB1) (sign_end h2)).1 h2;have HE:Hid (q=notQ (match innerT c.N b with | none => .inl (t::r,3) | some f=>f r)):=by
   show _=_;rw [HQ.out];unfold termG;simp only [hdT,h2,if_true,List.tail_cons];cases innerT c.N b<;>rfl
  obtain ⟨q2,hq2⟩ :∃q2:QR,q2=(match innerT c.N b with | none => .inl (t::r,3) | some f=>f r):=⟨_,rfl⟩;rw [<- hq2] at h3 HE;have HF1:Hid (Fr w.heap.size P w w1):=HP.out.fr hB1;clear hq2 HIN HQ
  go_wp2_with fail
  refine h3.mono ?_;rintro e w2 ⟨v,s,y,r2,rfl,hs,hr,hp,hf,hq⟩;have HF2:Hid (Fr w.heap.size P w w2):=HF1.out.then hf HF1.out.size
  have h4:=not_any s hs v w2 (hr.rng (λk hk=>hk.1));have hu0:=notS_upto hs;have HQ2:Hid ((y≠0/\q2 = .inl (r2,y))\/(y=0/\q2 = .inr (s,r2))):=hq;obtain ⟨va,vc,rfl⟩:=hr.slice;clear h3 hr hq hs hf
  go_wp2_with fail
  refine h4.mono ?_;rintro e w3 ⟨l,v3,rfl,hu,ho,hB3⟩;obtain rfl:l=notS s:=hu.unique hu0;have hr3:=hp.rngS hB3 ho;obtain ⟨va3,vc3,rfl⟩:=hr3.slice;have HU:Hid (IsSet (notS s)):=hu.isSet;clear h4 ho hu hu0;go_wp2
  go_ret2
  refine ⟨_,notS s,y,r2,rfl,HU.out,hr3,hp.below hB3,HF2.out.then (hp.fr hB3) HF2.out.size,?_⟩;rw [HE.out];rcases HQ2.out with ⟨e1,e2⟩ | ⟨e1,e2⟩
  · rw [e2];exact .inl ⟨e1,rfl⟩
  · rw [e2];exact .inr ⟨e1,rfl⟩
 | false =>
  rw [h2] at h1
  go_wp2_with fail
  refine h1.mono ?_;rintro e w1 ⟨rfl,hB1⟩;clear h1;have HP1:Hid (Pa c X P w1 (t::r) st d):=HP.out.below hB1;have h3:Calls Tryz.prog 142 #[.pointer (some ⟨P,0,none⟩),.string ⟨#[40]⟩] w1 λe w'=>AnsB w1 (tkSign 40 t) e w':=isSign_ans c X P w1 t r st d HP1.out 40 (by decide);cases h4:tkSign 40 t with
  | true =>
   rw [h4] at h3
   go_wp2_with fail
   refine h3.mono ?_;rintro e w2 ⟨rfl,hB2⟩;clear h3;have h5:=(HIN.out w2 (HP1.out.below hB2) (sign_end h4)).2 h2 h4;have HF2:Hid (Fr w.heap.size P w w2):=HP.out.fr (below_after hB1 hB2);clear HIN HQ
   go_wp2_with fail
   refine h5.mono ?_;rintro e w3 ⟨v,s,y,r2,rfl,hs,hr,hp,hf,hq⟩;clear h5;go_wp2
   go_ret2
   exact ⟨_,s,y,r2,rfl,hs,hr,hp,HF2.out.then hf HF2.out.size,hq⟩
  | false =>
   rw [h4] at h3
   go_wp2_with fail
   refine h3.mono ?_;rintro e w2 ⟨rfl,hB2⟩;clear h3 HIN;have HP2:Hid (Pa c X P w2 (t::r) st d):=HP1.out.below hB2;have HB2:Hid (Below w.heap.size w w2):=below_after hB1 hB2;have h5:=set_ans c X P w2 t r st d HP2.out;have HE:Hid (q=match setM c.N t with | .inl e => .inl (t::r,e) | .inr s => .inr (s,r)):=by
    show _=_;rw [HQ.out];unfold termG;simp only [hdT,h2,h4,List.tail_cons];rfl
   obtain ⟨q2,hq2⟩ :∃q2,q2=setM c.N t:=⟨_,rfl⟩;have HQ2:Hid (q2=setM c.N t):=hq2;rw [<- hq2] at h5 HE;clear hq2 HQ
   go_wp2_with fail
   refine h5.mono ?_;rintro e w3 ⟨⟨x,rfl,hx,rfl⟩ | ⟨s,v,rfl,hs,hr,rfl⟩,hB3⟩
   · have hx':(x==0)=false:=by simpa using hx
     have HX:Hid (x≠0):=hx;clear hx h5;go_wp2
     go_ret2
     exact ⟨_,[],x,t::r,rfl,IsSet.nil,RngS.nil _ _,HP2.out.below hB3,HP.out.fr (below_after HB2.out hB3),.inl ⟨HX.out,HE.out⟩⟩
   · have HS:Hid (IsSet s):=hs;have HR:Hid (RngS (Im X w3 P) w3 v s):=hr;obtain ⟨va,vc,rfl⟩:=hr.slice;have hp3:=HP2.out.below hB3;have h6:=take_any c X P w3 t r st d hp3 (setM_end HQ2.out.symm);clear h5 hs hr
     go_wp2_with fail
     refine h6.mono ?_;rintro e w4 ⟨rfl,hp4,hf4,_⟩;clear h6;go_wp2
     go_ret2
     have hf3:=HP.out.fr (below_after HB2.out hB3);exact ⟨_,s,0,r,rfl,HS.out,HR.out.fr hf4,hp4,hf3.then hf4 hf3.size,.inr ⟨rfl,HE.out⟩⟩
theorem termM_br {N:Nms} {b:Nat} {t:Tok} {r:List Tok} (h2:tkSign 126 t=false) (h4:tkSign 40 t=true):termM N (b+1) (t::r)=endQ 41 (sumM N b r):=by
 show termG N (some (termM N b)) (t::r)=_;unfold termG;simp only [hdT,h2,h4,List.tail_cons];rfl
theorem termM_br0 {N:Nms} {t:Tok} {r:List Tok} (h2:tkSign 126 t=false) (h4:tkSign 40 t=true):termM N 0 (t::r) = .inl (t::r,3):=by
 show termG N none (t::r)=_;unfold termG;simp only [hdT,h2,h4];rfl
theorem term_any:∀b,TermC b
 | 0=>term_step 0 (λc X P w t r st d hd hp hk=>by
  obtain rfl:d=20:=by omega
  exact ⟨λ_=>deeperR_full c X P w (t::r) st _ _ _ hp,λh2 h4=>by rw [termM_br0 h2 h4];exact bracketR_full c X P w (t::r) st hp⟩)
 | b+1=>term_step (b+1) (λc X P w t r st d hd hp hk=>by
  have ih:=term_any b;refine ⟨λ_=>deeperR_any c X P w t r st d 143 #[.pointer (some ⟨P,0,none⟩)] #[] (termM c.N b r) (enters_of Tryz.func143 (by kernel_rfl) rfl) (by omega) hk hp (λw1 hp1 _=>ih c X P w1 r st (d+1) (by omega) hp1),λh2 h4 => ?_⟩;rw [termM_br h2 h4];exact bracketR_any c X P w t r st d (sumM c.N b r) (by omega) hk hp (λw1 hp1=>sum_of_term b ih c X P w1 r st (d+1) (by omega) hp1))
theorem sum_any (b:Nat):SumC b:=sum_of_term b (term_any b)
set_option maxHeartbeats 4000000
set_option maxRecDepth 100000
theorem neq_rng (a b x y:Int) (w:World):(binOp .neq 94 (.agg #[.int .i64 a,.int .i64 b]) (.agg #[.int .i64 x,.int .i64 y])).run Tryz.prog w = .ok (.bool (!(a==x&&b==y))) w:=by
 have u3:=Tryz.underlying3;have a3:=Tryz.isAgg3;have z3:=Tryz.sizeOf3;have hS:Tryz.prog.underlying 94=some (.struct (Tryz.prog.fieldsOf 94)):=by kernel_rfl
 have hp:Tryz.prog.stoodInHeld 94=false:=by kernel_rfl
 rw [run_neq_struct,show (10000:Nat)=9999+1 from rfl,run_equalIn_agg w 9999 94 _ _ hS hp];simp only [Program.fieldsOf,Tryz.underlying94]
 go_simp
 by_cases h1:a=x<;>by_cases h2:b=y<;>simp [h1,h2]
theorem sameS_len {a b:List Rg} (h:a.length≠b.length):sameS a b=false:=by
 cases q:sameS a b with
 | false=>rfl
 | true=>exact absurd (congrArg List.length (sameS_iff.1 q)) h
theorem sameS_drop {a b:List Rg} {k:Nat} (ha:k<a.length) (hb:k<b.length):sameS (a.drop k) (b.drop k)=((a[k].lo==b[k].lo&&a[k].hi==b[k].hi)&&sameS (a.drop (k+1)) (b.drop (k+1))):=by
 rw [List.drop_eq_getElem_cons ha,List.drop_eq_getElem_cons hb];rfl
theorem equal_any (us vs:List Rg) (hlen:us.length<=600000) (va vb:Value) (w:World) (ha:RngIn w va us) (hb:RngIn w vb vs) :
 Calls Tryz.prog 60 #[va,vb] w λe w'=>e = .returned (.bool (sameS us vs))/\Below w.heap.size w w':=by
 obtain ⟨a,ca,rfl,hca,hia⟩:=ha;obtain ⟨b,cb,rfl,hcb,hib⟩:=hb;obtain ⟨q,hq⟩ :∃q,q=sameS us vs:=⟨_,rfl⟩;rw [<- hq];have HQ:Hid (q=sameS us vs):=hq;clear hq;by_cases hl:us.length=vs.length
 · have HA:Hid (∀i,(h:i<us.length)->∃g off,a=some ⟨g,off,none⟩/\g<w.heap.size/\w.cell? ⟨g,off+i*2,none⟩=some (.int .i64 us[i].lo)/\w.cell? ⟨g,off+i*2+1,none⟩=some (.int .i64 us[i].hi)):=hia;have HB:Hid (∀i,(h:i<vs.length)->∃g off,b=some ⟨g,off,none⟩/\g<w.heap.size/\w.cell? ⟨g,off+i*2,none⟩=some (.int .i64 vs[i].lo)/\w.cell? ⟨g,off+i*2+1,none⟩=some (.int .i64 vs[i].hi)):=hib;have HL:Hid (us.length=vs.length):=hl;rw [<- hl] at hcb ⊢;clear hia hib hl;have hneq:((us.length:Int) != (us.length:Int))=false:=by simp
   go_enter Tryz.func60,Tryz.ntmps60;go_wp2
   go_loopw [13] (λi wr=>∃k:Nat,k<=us.length/\i = .int .i64 k/\Hid (q=sameS (us.drop k) (vs.drop k))/\∃nd,wr=w.drewN nd) (λi _=>us.length-(intOf i).toNat)
   case atStart=>exact ⟨0,Nat.zero_le _,rfl,HQ.out,0,rfl⟩
   case round =>
    obtain ⟨k,hk,rfl,HD,nd,rfl⟩:=hrel;by_cases hlt:k<us.length
    · have hlt2:k<vs.length:=by have:=HL.out;omega
      obtain ⟨ga,oa,rfl,hga,a0,a1⟩:=HA.out k hlt;obtain ⟨gb,ob,rfl,hgb,b0,b1⟩:=HB.out k hlt2;obtain ⟨xl,hxl⟩ :∃x,x=us[k].lo:=⟨_,rfl⟩;obtain ⟨xh,hxh⟩ :∃x,x=us[k].hi:=⟨_,rfl⟩;obtain ⟨yl,hyl⟩ :∃x,x=vs[k].lo:=⟨_,rfl⟩;obtain ⟨yh,hyh⟩ :∃x,x=vs[k].hi:=⟨_,rfl⟩;have HD2:Hid (q=((xl==yl&&xh==yh)&&sameS (us.drop (k+1)) (vs.drop (k+1)))):=by
       show _=_;rw [hxl,hxh,hyl,hyh,<- sameS_drop hlt hlt2];exact HD.out
      rw [<- hxl] at a0;rw [<- hxh] at a1;rw [<- hyl] at b0;rw [<- hyh] at b1;clear hxl hxh hyl hyh hlt2;have hk0:(0:Int)<=(k:Int):=by omega
      have hk1:(k:Int)<(us.length:Int):=by omega
      have hnq:∀W:World,(binOp .neq 94 (.agg #[.int .i64 xl,.int .i64 xh]) (.agg #[.int .i64 yl,.int .i64 yh])).run Tryz.prog W = .ok (.bool (!(xl==yl&&xh==yh))) W:=λW=>neq_rng xl xh yl yh W;have hgd:Tryz.prog.eqGuardType Tryz.prog.depth 94=false:=by kernel_rfl
      cases hb:(xl==yl&&xh==yh) with
      | true =>
       rw [hb] at hnq;have HD3:Hid (q=sameS (us.drop (k+1)) (vs.drop (k+1))):=by
        show _=_;rw [HD2.out,hb];rfl
       clear HD HD2;go_wp2
       go_quiet (fail)
       go_wp2
       go_roundw
       case rel=>exact ⟨k+1,by omega,by go_num,HD3,_,rfl⟩
       case measure=>simp [intOf];omega
      | false =>
       rw [hb] at hnq;have HD3:Hid (q=false):=by
        show _=_;rw [HD2.out,hb];rfl
       clear HD HD2;go_wp2
       go_quiet (fail)
       go_wp2;go_ret;refine ⟨by rw [HD3.out];rfl,?_⟩
       first | exact below_drewN' (below_drewN' (Below.refl _ _) _) _ | exact below_drewN' (Below.refl _ _) _
    · obtain rfl:k=us.length:=by omega
      have HD3:Hid (q=true):=by
       show _=_;rw [HD.out,List.drop_length,HL.out,List.drop_length];rfl
      go_wp2;go_ret;exact ⟨by rw [HD3.out];rfl,below_drewN' (Below.refl _ _) _⟩
 · have hneq:((us.length:Int) != (vs.length:Int))=true:=by simp;omega
   have HE:Hid (q=false):=HQ.out.trans (sameS_len hl);clear hia hib hl;go_enter Tryz.func60,Tryz.ntmps60;go_wp2;go_ret;exact ⟨by rw [HE.out];rfl,Below.refl _ _⟩
end Go.Proofs.YtfdjchnckjgapaaGreatDoor
