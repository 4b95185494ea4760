/-
  NamP TxtP
-/
import Derived.Test.YtfdjchnckjgapaaGreatDoorZ20
namespace Go.Proofs.YtfdjchnckjgapaaGreatDoor
set_option maxHeartbeats 16000000
set_option maxRecDepth 100000
open Go.RowKit Go.Shelf S1
set_option linter.unusedVariables false
theorem no_cell {w:World} {mb:Nat} {es:Array MapEntry} {ck:Nat} (h:w.heap[mb]? = some (.map es ck)) (off:Nat):w.cell? ⟨mb,off,none⟩=none:=by simp [World.cell?,h]
theorem RngS.off {Q:Nat->Prop} {w:World} {v:Value} {l:List Rg} {mb:Nat} {es:Array MapEntry} {ck:Nat} (hm:w.heap[mb]? = some (.map es ck)) (h:RngS Q w v l):RngS (λk=>Q k/\k≠mb) w v l:=by
 obtain ⟨a,cap,e,hc,hn,hi⟩:=h;refine ⟨a,cap,e,hc,hn,λi hlt => ?_⟩;obtain ⟨g,off,rfl,hg,h0,h1⟩:=hi i hlt;exact ⟨g,off,rfl,⟨hg,λq=>by rw [q,no_cell hm] at h0;cases h0⟩,h0,h1⟩
theorem TokS.off {Q:Nat->Prop} {w:World} {g off k:Nat} {ts:List Tok} {mb:Nat} {es:Array MapEntry} {ck:Nat} (hm:w.heap[mb]? = some (.map es ck)) (h:TokS Q w g off k ts):TokS (λk=>Q k/\k≠mb) w g off k ts:=λi hi=>by
 obtain ⟨h0,h1,h2,h3,⟨v,h4,h5⟩,h6⟩:=h i hi;exact ⟨⟨h0,λq=>by rw [q,no_cell hm] at h1;cases h1⟩,h1,h2,h3,⟨v,h4,h5.off hm⟩,h6⟩
theorem SetsS.off {Q:Nat->Prop} {w:World} {vs:List Value} {st:Sts} {mb:Nat} {es:Array MapEntry} {ck:Nat} (hm:w.heap[mb]? = some (.map es ck)) (h:SetsS Q w vs st):SetsS (λk=>Q k/\k≠mb) w vs st:=⟨h.1,λi hi=>by
 obtain ⟨v,h1,h2,h3⟩:=h.2 i hi;exact ⟨v,h1,h2.off hm,h3⟩⟩
theorem KidS.off {Q:Nat->Prop} {w:World} {mb:Nat} {es:Array MapEntry} {ck:Nat} (hm:w.heap[mb]? = some (.map es ck)):∀ {f:Nat} {z:Value} {l:List Nd},KidS Q w f z l->KidS (λk=>Q k/\k≠mb) w f z l
 | 0,z,l,h=>h
 | f+1,z,l,⟨a,cap,e,hc,hi⟩=>⟨a,cap,e,hc,λi h=>by
  obtain ⟨g,off,z',h1,h2,h3,h4,h5,h6⟩:=hi i h;exact ⟨g,off,z',h1,⟨h2,λq=>by rw [q,no_cell hm] at h3;cases h3⟩,h3,h4,h5,h6.off hm⟩⟩
theorem KdX.off {Q:Nat->Prop} {w:World} {mb:Nat} {es:Array MapEntry} {ck:Nat} (hm:w.heap[mb]? = some (.map es ck)) {z:Value} {l:List Nd} (h:KdX Q w z l):KdX (λk=>Q k/\k≠mb) w z l:=by
 obtain ⟨f,h⟩:=h;exact ⟨f,h.off hm⟩
theorem NmS.isMap {Q:Nat->Prop} {w:World} {mb m:Nat} {N:Nms} (h:NmS Q w mb m N):Q mb/\∃es ck,w.heap[mb]? = some (.map es ck):=by
 obtain ⟨h0,n,D,hn,⟨es,ck,hb,_⟩,_⟩:=h;exact ⟨h0,es,ck,hb⟩
def Pc.nm (c:Pc) (N:Nms):Pc:=⟨c.g,c.off,c.n,c.cap,c.mb,c.base,c.rv,N,c.ty⟩
structure FrM (n P mb:Nat) (w w':World):Prop where
 os:w'.os=w.os
 tape:w'.tape=w.tape
 output:w'.output=w.output
 size:w.heap.size<=w'.heap.size
 keep:∀k,k<n->Im NoX w P k->(k≠mb->w'.heap[k]? = w.heap[k]?)/\Im NoX w' P k
theorem Fr.frM {n P mb:Nat} {w w':World} (h:Fr n P w w'):FrM n P mb w w':=⟨h.os,h.tape,h.output,h.size,λk hk hm=>⟨λ_=>(h.keep k hk hm).1,(h.keep k hk hm).2⟩⟩
theorem FrM.trans {n P mb:Nat} {a b c:World} (h:FrM n P mb a b) (k:FrM n P mb b c):FrM n P mb a c :=
 ⟨k.os.trans h.os,k.tape.trans h.tape,k.output.trans h.output,Nat.le_trans h.size k.size,λi hi hm=>by
  obtain ⟨e1,m1⟩:=h.keep i hi hm;obtain ⟨e2,m2⟩:=k.keep i hi m1;exact ⟨λq=>(e2 q).trans (e1 q),m2⟩⟩
theorem frM_map {P mb:Nat} {w w':World} (hP:P<w.heap.size) (hne:P≠mb) (hg:w.grownBy w' (some mb)) (n:Nat):FrM n P mb w w':=by
 have hc:w'.cell? ⟨P,3,none⟩=w.cell? ⟨P,3,none⟩:=World.cell?_of_block (a:=⟨P,3,none⟩) (hg.block P hP (by simpa using hne));exact ⟨hg.os,hg.tape,hg.output,hg.size,λk hk hm=>⟨λq=>hg.block k hm.1 (by simpa using q),hm.same hg.size hc⟩⟩
theorem Pa.named {c:Pc} {X:Nat->Prop} {P:Nat} {w w':World} {ts:List Tok} {st:Sts} {d:Nat} (h:Pa c X P w ts st d) {x:List Int} {s:List Rg} {v:Value} (hx:Byt x) (hs:IsSet s) (hv:RngS (Im X w P) w v s) {k0 n0:Nat} {D:DataW Value}
 (hD:w.ownsMap Tryz.prog 9 heldR c.mb n0 D) (hk0:n0<=k0) (hk:k0+ts.length<c.n) (hq:Im X w P c.mb) (hN:∀x,Byt x->x.length<=70000->(c.N x=none->Maps.has D (keyL x)=false)/\∀s,c.N x=some s->Maps.has D (keyL x)=true/\IsSet s/\∃v,(∀z,D.atKey (keyL x) z = .held v)/\RngS (Im X w P) w v s)
 (hg:w.grownBy w' (some c.mb)) (hD':w'.ownsMap Tryz.prog 9 heldR c.mb (n0+1) (D.put (keyL x) (.held v))):Pa (c.nm (giveN c.N x s)) X P w' ts st d:=by
 have hP:=h.lt;have hne:P≠c.mb:=Ne.symm hq.2.1;obtain ⟨es,ck,hmap,_⟩:=id hD;have hfm:=frM_map hP hne hg w.heap.size;have hto:∀j,(Im X w P j/\j≠c.mb)->w'.heap[j]? = w.heap[j]? /\ Im X w' P j:=λj hj=>by
  obtain ⟨e1,e2⟩:=hfm.keep j hj.1.1 hj.1.no;exact ⟨e1 hj.2,e2.with hj.1.2.2.2⟩
 obtain ⟨k,sv,h1,h2,h3⟩:=h;obtain ⟨e1,e2,e3,e4,e5,⟨vs,e6,e6'⟩,e7,e8,e9,e10,e11⟩:=h2;have hrow:w'.heap[P]? = some (.cells ((c.nm (giveN c.N x s)).row k sv d) c.ty (0,0)):=(hg.block P hP (by simpa using hne)).trans h1;have hD1:Maps.IsMap D:=hD.isMap;have hkey:WideAt.IsKeyLit (keyL x):=by unfold keyL;trivial
 refine ⟨k,sv,hrow,⟨e1,e2,e3,e4,(e5.off hmap).to hto,⟨vs,own_block e6 (λj hj => ?_),(e6'.off hmap).to hto⟩,e7,e8,⟨?_,n0+1,D.put (keyL x) (.held v),by omega,hD',λy hy hl => ?_⟩,e10,λj hj=>Nat.lt_of_lt_of_le (e11 j hj) hg.size⟩,h3⟩
 · refine hg.block j (e6.lt j hj).2 (λq => ?_);have hjm:j=c.mb:=by simpa using q
   rcases e6.2 with ⟨rfl,_⟩ | ⟨g,cap,cur,rfl,_,hgg,_⟩
   · simp [Value.ownBlock] at hj
   · have:g=j:=by simpa [Value.ownBlock] using hj
     rw [this,hjm,hmap] at hgg;cases hgg
 · exact (hfm.keep c.mb hq.1 hq.no).2.with hq.2.2.2
 · show (giveN c.N x s y=none->_)/\∀s',giveN c.N x s y=some s'->_;unfold giveN;by_cases q:y=x
   · subst q;rw [if_pos rfl];refine ⟨λq=>(by cases q),λs' hs' => ?_⟩;obtain rfl:s=s':=by simpa using hs'
     exact ⟨Maps.has_put_same hD1 hkey _,hs,v,λz=>Maps.atKey_put_same hD1 hkey _ z,(hv.off hmap).to hto⟩
   · rw [if_neg q];have hkn:keyL y≠keyL x:=keyL_ne hy hx q;obtain ⟨n1,n2⟩:=hN y hy hl;refine ⟨λq=>(by rw [Maps.has_put_other hkn];exact n1 q),λs' hs' => ?_⟩;obtain ⟨m1,m2,v',m3,m4⟩:=n2 s' hs';exact ⟨by rw [Maps.has_put_other hkn];exact m1,m2,v',λz=>by rw [Maps.atKey_put_other hkn];exact m3 z,(m4.off hmap).to hto⟩
def NmA (c:Pc) (X:Nat->Prop) (P:Nat) (st:Sts) (q:(List Tok×Int) ⊕ (Nms×List Tok)) (w:World) (e:Ending) (w':World):Prop :=
 ∃x r N,e = .returned (.int .i64 x)/\Pa (c.nm N) X P w' r st 0/\FrM w.heap.size P c.mb w w'/\((x≠0/\q = .inl (r,x))\/(x=0/\q = .inr (N,r)))
theorem nameM_bad {N:Nms} {ts:List Tok} (h:tkName (hdT ts)=false):nameM N ts = .inl (ts,6):=by unfold nameM;rw [if_pos h]
theorem nameM_there {N:Nms} {ts:List Tok} {s:List Rg} (h:tkName (hdT ts)=true) (h2:N (hdT ts).t=some s):nameM N ts = .inl (ts,5):=by unfold nameM;rw [if_neg (by simp [h]),h2]
theorem nameM_sign {N:Nms} {ts:List Tok} (h:tkName (hdT ts)=true) (h2:N (hdT ts).t=none) (h3:tkSign 61 (hdT ts.tail)=false):nameM N ts = .inl (ts.tail,6):=by unfold nameM;rw [if_neg (by simp [h]),h2];simp only;rw [if_pos h3]
def gvM (N:Nms) (x:List Int):QR->(List Tok×Int) ⊕ (Nms×List Tok)
 | .inl e => .inl e
 | .inr (s,r) => .inr (giveN N x s,r)
theorem nameM_sum' {N:Nms} {ts:List Tok} (h:tkName (hdT ts)=true) (h2:N (hdT ts).t=none) (h3:tkSign 61 (hdT ts.tail)=true):nameM N ts=gvM N (hdT ts).t (endQ 59 (sumM N 20 ts.tail.tail)):=by
 unfold nameM;rw [if_neg (by simp [h]),h2];simp only;rw [if_neg (by simp [h3])];cases endQ 59 (sumM N 20 ts.tail.tail)<;>rfl
theorem naming_any (c:Pc) (X:Nat->Prop) (P:Nat) (w:World) (t0:Tok) (r0:List Tok) (st:Sts) (hpa:Pa c X P w (t0::r0) st 0) (hk0:t0.k≠4) :
 Calls Tryz.prog 83 #[.pointer (some ⟨P,0,none⟩)] w λe w'=>NmA c X P st (nameM c.N r0) w e w':=by
 have hPl:=hpa.lt;have h1:=take_any c X P w t0 r0 st 0 hpa hk0;obtain ⟨k0,n0,D,hn0,hD,hk0n,hN,hqm⟩ :∃k0 n0 D,n0<=k0/\w.ownsMap Tryz.prog 9 heldR c.mb n0 D/\k0+(t0::r0).length=c.n/\(∀x,Byt x->x.length<=70000->(c.N x=none->Maps.has D (keyL x)=false)/\∀s,c.N x=some s->Maps.has D (keyL x)=true/\IsSet s/\∃v,(∀z,D.atKey (keyL x) z = .held v)/\RngS (Im X w P) w v s)/\Im X w P c.mb:=by
  obtain ⟨k,sv,a1,a2,a3⟩:=hpa;obtain ⟨e1,_,_,_,_,_,_,_,⟨b0,n,D,b1,b2,b3⟩,_⟩:=a2;exact ⟨k,n,D,b1,b2,e1,b3,b0⟩
 have HMAP:Hid (n0<=k0/\w.ownsMap Tryz.prog 9 heldR c.mb n0 D/\k0+(t0::r0).length=c.n/\(∀x,Byt x->x.length<=70000->(c.N x=none->Maps.has D (keyL x)=false)/\∀s,c.N x=some s->Maps.has D (keyL x)=true/\IsSet s/\∃v,(∀z,D.atKey (keyL x) z = .held v)/\RngS (Im X w P) w v s)/\Im X w P c.mb):=⟨hn0,hD,hk0n,hN,hqm⟩;obtain ⟨q,hq⟩ :∃q,q=nameM c.N r0:=⟨_,rfl⟩;rw [<- hq];have HQ:Hid (q=nameM c.N r0):=hq;have HN0:Hid (n0<=70000):=by
  obtain ⟨k,sv,a1,a2,a3⟩:=hpa;obtain ⟨e1,e2,_⟩:=a2;show _<=_;omega
 have hn70:n0<=70000:=HN0.out;clear hq hpa hn0 hD hk0n hN hqm;go_enter Tryz.func83,Tryz.ntmps83
 go_wp2_with fail
 refine h1.mono ?_;rintro e w1 ⟨rfl,hp1,hf1,hs1⟩;clear h1 hs1;obtain ⟨t,r,rfl⟩:=hp1.ends.cons;have h2:=isName_ans c X P w1 t r st 0 hp1;have HP1:Hid (Pa c X P w1 (t::r) st 0):=hp1;have HF1:Hid (Fr w.heap.size P w w1):=hf1;cases hnm:tkName t with
 | false =>
  rw [hnm] at h2;have HE:Hid (q = .inl (t::r,6)):=HQ.out.trans (nameM_bad hnm)
  go_wp2_with fail
  refine h2.mono ?_;rintro e w2 ⟨rfl,hB2⟩;clear h2;go_wp2;go_ret;exact ⟨6,t::r,c.N,rfl,HP1.out.below hB2,(HF1.out.then (HP1.out.fr hB2) HF1.out.size).frM,.inl ⟨by decide,HE.out⟩⟩
 | true =>
  rw [hnm] at h2;have HNM:Hid (tkName t=true):=hnm
  go_wp2_with fail
  refine h2.mono ?_;rintro e w2 ⟨rfl,hB2⟩;clear h2;have hp2:=HP1.out.below hB2;have h3:=next_any c X P w2 t r st 0 hp2;obtain ⟨_,_,_,_,_,_,_,_,_,_,_,_,_,_,_,hby,hln,_⟩:=hp2.next;have HBY:Hid (Byt t.t/\t.t.length<=70000):=⟨hby,hln⟩;clear hp1 hf1 hby hln hnm
  go_wp2_with fail
  refine h3.mono ?_;rintro e w3 ⟨v,rfl,hrv,hB3⟩;obtain ⟨va,vc,rfl⟩:=hrv.slice;unfold tokV;have hff:=field_tok2 (.int .i64 t.k) (.int .i64 (t.p:Int)) (.string (strOfNums t.t)) (.slice va t.s.length vc) w3;have hB23:=below_after hB2 hB3;have HP3:Hid (Pa c X P w3 (t::r) st 0):=HP1.out.below hB23;have HF3:Hid (Fr w.heap.size P w w3):=HF1.out.then (HP1.out.fr hB23) HF1.out.size
  obtain ⟨hmc,hnm3⟩:=HP3.out.names;have hPl3:=HP3.out.lt;clear h3 hrv hB2 hB3 hB23 hp2;rcases hnm3.look t.t HBY.out.1 HBY.out.2 with ⟨hN,v3,hrun⟩ | ⟨s,v3,hN,_,_,hrun⟩
  · have HNN:Hid (c.N t.t=none):=hN;have h4:=take_any c X P w3 t r st 0 HP3.out (name_end HNM.out);clear hnm3 hN
    go_wp2_with fail
    refine h4.mono ?_;rintro e w4 ⟨rfl,hp4,hf4,hs4⟩;clear h4 hs4;obtain ⟨t5,r5,rfl⟩:=hp4.ends.cons;have HF4:Hid (Fr w.heap.size P w w4):=HF3.out.then hf4 HF3.out.size
    have h5:Calls Tryz.prog 115 #[.pointer (some ⟨P,0,none⟩),.string ⟨#[61]⟩] w4 λe w'=>e = .returned (.bool (tkSign 61 t5))/\Pa c X P w' (if tkSign 61 t5=true then r5 else t5::r5) st 0/\Fr w4.heap.size P w4 w':=takesSign_ans c X P w4 t5 r5 st 0 hp4 61 (by decide);clear hmc hrun hff hf4 hp4;cases hsg:tkSign 61 t5 with
    | false =>
     rw [hsg] at h5;have HE:Hid (q = .inl (t5::r5,6)):=HQ.out.trans (nameM_sign HNM.out HNN.out hsg)
     go_wp2_with fail
     refine h5.mono ?_;rintro e w5 ⟨rfl,hp5,hf5⟩;clear h5;go_wp2;go_ret;exact ⟨6,t5::r5,c.N,rfl,hp5,(HF4.out.then hf5 HF4.out.size).frM,.inl ⟨by decide,HE.out⟩⟩
    | true =>
     rw [hsg] at h5;have HE:Hid (q=gvM c.N t.t (endQ 59 (sumM c.N 20 r5))):=HQ.out.trans (nameM_sum' HNM.out HNN.out hsg)
     go_wp2_with fail
     refine h5.mono ?_;rintro e w5 ⟨rfl,hp5,hf5⟩;have HF5:Hid (Fr w.heap.size P w w5):=HF4.out.then hf5 HF4.out.size
     have h6:Calls Tryz.prog 116 #[.pointer (some ⟨P,0,none⟩),.func (.func 117) #[.pointer (some ⟨P,0,none⟩)] #[],.string ⟨#[59]⟩] w5 λe w'=>QA c X P st 0 (endQ 59 (sumM c.N 20 r5)) w5 e w':=endedR_any c X P w5 st 0 _ 59 (by decide) (sum_any 20 c X P w5 r5 st 0 rfl hp5);have HLS:=endQ_left (c:=59) (sumM_left c.N 20 r5);obtain ⟨q2,hq2⟩ :∃q2,q2=endQ 59 (sumM c.N 20 r5):=⟨_,rfl⟩;rw [<- hq2] at h6 HE HLS;have HLS2:Hid (QLeft r5 q2):=HLS;clear h5 hq2 hf5 hp5 hsg HLS HF4 HF3 HP3 HP1 HF1
     go_wp2_with fail
     refine h6.mono ?_;rintro e w6 ⟨v6,s6,x6,r6,rfl,hs6,hr6,hp6,hf6,hq6⟩;obtain ⟨a6,c6,rfl⟩:=hr6.slice;have hF6:=HF5.out.then hf6 HF5.out.size
     obtain ⟨hmc,_⟩:=hp6.names;have hPl6:=hp6.lt;have hto:=λj (hj:Im X w P j)=>hF6.im hj.1 hj;have HD6:Hid (w6.ownsMap Tryz.prog 9 heldR c.mb n0 D):=ownsMap_block HMAP.out.2.1 (hto _ HMAP.out.2.2.2.2).1;have HQ6:Hid (Im X w6 P c.mb):=(hto _ HMAP.out.2.2.2.2).2;have HN6:Hid (∀x,Byt x->x.length<=70000->(c.N x=none->Maps.has D (keyL x)=false)/\∀s,c.N x=some s->Maps.has D (keyL x)=true/\IsSet s/\∃v,(∀z,D.atKey (keyL x) z = .held v)/\RngS (Im X w6 P) w6 v s):=λx hx hl=>by
      obtain ⟨n1,n2⟩:=HMAP.out.2.2.2.1 x hx hl;refine ⟨n1,λs hs => ?_⟩;obtain ⟨m1,m2,v,m3,m4⟩:=n2 s hs;exact ⟨m1,m2,v,m3,m4.to hto⟩
     have HK6:Hid (k0+r6.length<c.n):=by
      have hL:=HLS2.out;have h7:=HMAP.out.2.2.1;simp at h7;show _<_;rcases hq6 with ⟨_,e2⟩ | ⟨_,e2⟩
      · rw [e2] at hL;have:=hL.1;omega
      · rw [e2] at hL;have:=hL.1;omega
     have HP6:Hid (Pa c X P w6 r6 st 0):=hp6;have HR6:Hid (IsSet s6/\RngS (Im X w6 P) w6 (.slice a6 s6.length c6) s6):=⟨hs6,hr6⟩;have HF6:Hid (Fr w.heap.size P w w6):=hF6;have HX6:Hid ((x6≠0/\q = .inl (r6,x6))\/(x6=0/\q = .inr (giveN c.N t.t s6,r6))):=by
      rcases hq6 with ⟨e1,e2⟩ | ⟨e1,e2⟩
      · exact .inl ⟨e1,by rw [HE.out,e2];rfl⟩
      · exact .inr ⟨e1,by rw [HE.out,e2];rfl⟩
     clear h6 hs6 hr6 hp6 hf6 hq6 hF6 hto HF5 HLS2 HE
     go_wp2_with (at_mapUpdate;go_must (refine wpList_mapUpdate_own _ rfl _ _ _ 49 rfl 9 43 (Maps.string_keyed Tryz.underlying9) Tryz.underlying49 heldR c.mb n0 D rfl HD6.out (by unfold maxLen;omega) _ _ (keyL t.t) rfl rfl (keyOf_name t.t HBY.out.2) (.held (.slice a6 s6.length c6)) [] rfl ?_);intro w7 hD7 hg7;refine Hid.out ?_)
     refine Lib.hid ?_;have hp7:=HP6.out.named (x:=t.t) HBY.out.1 HR6.out.1 HR6.out.2 HD6.out HMAP.out.1 HK6.out HQ6.out HN6.out hg7 hD7;have hf7:=(HF6.out.frM (mb:=c.mb)).trans (frM_map HP6.out.lt (Ne.symm HQ6.out.2.1) hg7 w.heap.size);clear hD7 hg7;go_wp2;go_ret;exact ⟨x6,r6,_,rfl,hp7,hf7,HX6.out⟩
  · have HE:Hid (q = .inl (t::r,5)):=HQ.out.trans (nameM_there HNM.out hN);clear hnm3 hN;go_wp2;go_ret;exact ⟨5,t::r,c.N,rfl,HP3.out,HF3.out.frM,.inl ⟨by decide,HE.out⟩⟩
abbrev RlV:=Rl×Value×Value
def cellsRl (x:RlV):List Value:=[.bool x.1.b,.int .i64 x.1.l.k,.int .i64 x.1.l.s,x.2.1,.int .i64 x.1.r.k,.int .i64 x.1.r.s,x.2.2]
def cellsRls (l:List RlV):List Value:=l.flatMap cellsRl
theorem cellsRls_snoc (l:List RlV) (x:RlV):cellsRls (l++[x])=cellsRls l++cellsRl x:=by simp [cellsRls]
def RlX (Q:Nat->Prop) (w:World) (l:List RlV):Prop:=∀x∈l,KdX Q w x.2.1 x.1.l.kids/\KdX Q w x.2.2 x.1.r.kids
theorem RlX.to {Q Q':Nat->Prop} {w w':World} {l:List RlV} (h:RlX Q w l) (hq:∀k,Q k->w'.heap[k]? = w.heap[k]? /\ Q' k):RlX Q' w' l:=λx hx=>⟨(h x hx).1.to hq,(h x hx).2.to hq⟩
def Pc.up (c:Pc) (rv:Value) (N:Nms):Pc:=⟨c.g,c.off,c.n,c.cap,c.mb,c.base,rv,N,c.ty⟩
def PT (c:Pc) (P:Nat) (w:World) (rs:List RlV) (ts:List Tok) (st:Sts):Prop :=
 Pa c (XV NoX c.rv) P w ts st 0/\w.ownsRow c.base 41 7 c.rv rs.length (cellsRls rs)/\(∀k,c.rv.ownBlock=some k->Im NoX w P k)/\RlX (λk=>Im (XV NoX c.rv) w P k/\k≠c.mb) w rs/\rs.length<=64
theorem Pa.rv {c:Pc} {X:Nat->Prop} {P:Nat} {w:World} {ts:List Tok} {st:Sts} {d:Nat} (h:Pa c X P w ts st d):w.cell? ⟨P,4,none⟩=some c.rv/\w.frozen? ⟨P,4,none⟩=false/\c.base<=P:=by
 obtain ⟨k,sv,h1,h2,h3⟩:=h;obtain ⟨_,_,_,_,_,_,_,_,_,e10,_⟩:=h2;exact ⟨by rw [row_cell h1];rfl,row_frozen h1 4,e10⟩
theorem Pa.setrv {c:Pc} {X:Nat->Prop} {P:Nat} {w:World} {ts:List Tok} {st:Sts} {d:Nat} (h:Pa c X P w ts st d) (nv:Value):Pa (c.up nv c.N) X P (w.setCell ⟨P,4,none⟩ nv) ts st d:=by
 obtain ⟨k,sv,h1,h2,h3⟩:=h;have h2':=h2;obtain ⟨e1,e2,e3,e4,e5,e6,e7,e8,e9,e10,e11⟩:=h2;obtain ⟨f1,f2,f3,f4,f5,f6,f7,f8,f9,f10,f11⟩:=h2'.to (λj hj=>(fr_own (n:=w.heap.size) (P:=P) w 4 (by decide) nv).all j hj) (λj hj=>Below.heap_setCell w ⟨P,4,none⟩ _ j (λq=>e7 (by rw [hj];exact congrArg some q))) (λj hj=>by simpa [World.setCell] using e11 j hj);refine ⟨k,sv,?_,⟨f1,f2,f3,f4,f5,f6,f7,f8,f9,f10,f11⟩,h3⟩;rw [heap_set h1];simp [Pc.row,Pc.up]
theorem Pa.base_im {c:Pc} {X:Nat->Prop} {P:Nat} {w:World} {ts:List Tok} {st:Sts} {d:Nat} (h:Pa c X P w ts st d) {k:Nat} (hk:k<c.base):Im NoX w P k:=by
 have hP:=h.lt;have hb:=h.rv.2.2;obtain ⟨j,sv,h1,h2,h3⟩:=h;refine ⟨by omega,by omega,λv hv q => ?_,id⟩;rw [row_cell h1] at hv;obtain rfl:sv=v:=by simpa [Pc.row] using hv
 have:=(h2.row_lt _ q).1;omega
theorem Pa.mapOf {c:Pc} {X:Nat->Prop} {P:Nat} {w:World} {ts:List Tok} {st:Sts} {d:Nat} (h:Pa c X P w ts st d):Im X w P c.mb/\∃es ck,w.heap[c.mb]? = some (.map es ck):=h.names.2.isMap
def senM (N:Nms) (rs:List Rl) (ts:List Tok) (st:Sts):(List Tok×Int) ⊕ (Nms×List Rl×List Tok×Sts) :=
 if tkWord wSet (hdT ts)=true then (match nameM N ts.tail with
  | .inl e => .inl e
  | .inr (N',r) => .inr (N',rs,r,st))
 else if tkRule (hdT ts)=false then .inl (ts,6)
 else if rs.length=64 then .inl (ts,3)
 else match ruleM N ts st with
  | .inl e => .inl e
  | .inr (x,r,st') => .inr (N,rs++[x],r,st')
theorem textF_end {f:Nat} {N:Nms} {rs:List Rl} {ts:List Tok} {st:Sts} (h:(hdT ts).k=4):textF (f+1) N rs ts st = .inr (rs,st):=by unfold textF;rw [if_pos h]
theorem textF_bad {f:Nat} {N:Nms} {rs:List Rl} {ts:List Tok} {st:Sts} {e:List Tok×Int} (h:(hdT ts).k≠4) (h2:senM N rs ts st = .inl e):textF (f+1) N rs ts st = .inl e:=by
 unfold senM at h2;unfold textF;rw [if_neg h]
 split
 · rename_i q;rw [if_pos q] at h2;cases hn:nameM N ts.tail with
   | inl x=>rw [hn] at h2;simpa using h2
   | inr x=>rw [hn] at h2;cases h2
 · rename_i q;rw [if_neg q] at h2
   split
   · rename_i q2;rw [if_pos q2] at h2;simpa using h2
   · rename_i q2;rw [if_neg q2] at h2
     split
     · rename_i q3;rw [if_pos q3] at h2;simpa using h2
     · rename_i q3;rw [if_neg q3] at h2;cases hn:ruleM N ts st with
       | inl x=>rw [hn] at h2;simpa using h2
       | inr x=>rw [hn] at h2;cases h2
theorem textF_on {f:Nat} {N N':Nms} {rs rs':List Rl} {ts r:List Tok} {st st':Sts} (h:(hdT ts).k≠4) (h2:senM N rs ts st = .inr (N',rs',r,st')):textF (f+1) N rs ts st=textF f N' rs' r st':=by
 unfold senM at h2;rw [textF,if_neg h]
 split
 · rename_i q;rw [if_pos q] at h2;cases hn:nameM N ts.tail with
   | inl x=>rw [hn] at h2;cases h2
   | inr x =>
    rw [hn] at h2;simp only [Sum.inr.injEq,Prod.mk.injEq] at h2;obtain ⟨rfl,rfl,rfl,rfl⟩:=h2;rfl
 · rename_i q;rw [if_neg q] at h2
   split
   · rename_i q2;rw [if_pos q2] at h2;cases h2
   · rename_i q2;rw [if_neg q2] at h2
     split
     · rename_i q3;rw [if_pos q3] at h2;cases h2
     · rename_i q3;rw [if_neg q3] at h2;cases hn:ruleM N ts st with
       | inl x=>rw [hn] at h2;cases h2
       | inr x =>
        rw [hn] at h2;simp only [Sum.inr.injEq,Prod.mk.injEq] at h2;obtain ⟨rfl,rfl,rfl,rfl⟩:=h2;rfl
theorem ruleM_left {N:Nms} {ts:List Tok} {st:Sts} {x:Rl} {r:List Tok} {st':Sts} (hk:(hdT ts).k≠4) (h:ruleM N ts st = .inr (x,r,st')):r.length<ts.length:=by
 have h0:=leftS_tail hk;unfold ruleM at h;have h1:=endN_left (c:=47) (regexM_left N 20 ts.tail st)
 split at h
 · cases h
 · rename_i l r1 st1 he;rw [he] at h1;have h2:=endN_left (c:=59) (regexM_left N 20 r1 st1)
   split at h
   · cases h
   · rename_i n r2 st2 he2;rw [he2] at h2;cases h;have:=(LeftS.trans h0 (Left.trans h1 h2)).1;exact this
theorem nameM_left {N N':Nms} {ts r:List Tok} (h:nameM N ts = .inr (N',r)):r.length<=ts.length:=by
 unfold nameM at h
 split at h
 · cases h
 · split at h
   · cases h
   · split at h
     · cases h
     · have h1:=endQ_left (c:=59) (sumM_left N 20 ts.tail.tail)
       split at h
       · cases h
       · rename_i s r1 he;rw [he] at h1;simp only [Sum.inr.injEq,Prod.mk.injEq] at h;rw [<- h.2];have:=h1.1;simp at this;omega
theorem senM_left {N N':Nms} {rs rs':List Rl} {ts r:List Tok} {st st':Sts} (hk:(hdT ts).k≠4) (h:senM N rs ts st = .inr (N',rs',r,st')):r.length<ts.length:=by
 have h0:=leftS_tail hk;unfold senM at h
 split at h
 · cases hn:nameM N ts.tail with
   | inl x=>rw [hn] at h;cases h
   | inr x =>
    rw [hn] at h;simp only [Sum.inr.injEq,Prod.mk.injEq] at h;have:=nameM_left hn;have:=h0.1;rw [<- h.2.2.1];omega
 · split at h
   · cases h
   · split at h
     · cases h
     · cases hn:ruleM N ts st with
       | inl x=>rw [hn] at h;cases h
       | inr x =>
        rw [hn] at h;simp only [Sum.inr.injEq,Prod.mk.injEq] at h;have:=ruleM_left hk hn;rw [<- h.2.2.1];exact this
def SA (c:Pc) (P:Nat) (q:(List Tok×Int) ⊕ (Nms×List Rl×List Tok×Sts)) (w:World) (e:Ending) (w':World):Prop :=
 ∃x,e = .returned (.int .i64 x)/\Below c.base w w'/\((x≠0/\∃c' X r st,q = .inl (r,x)/\Pa c' X P w' r st 0)\/(x=0/\∃rv N rs r st,q = .inr (N,rs.map Prod.fst,r,st)/\PT (c.up rv N) P w' rs r st))
theorem Tryz.infoRule8:(Tryz.prog.info? 41).map (λi=>(i.zero,i.size,i.bytes))=some (some (.agg #[.bool false,.int .i64 0,.int .i64 0,.slice none 0 0,.int .i64 0,.int .i64 0,.slice none 0 0]),7,88):=by kernel_rfl
theorem below_of_fr {c:Pc} {X:Nat->Prop} {P:Nat} {w w':World} {ts:List Tok} {st:Sts} {d:Nat} (h:Pa c X P w ts st d) (hf:Fr w.heap.size P w w'):Below c.base w w' :=
 ⟨hf.os,hf.tape,hf.output,hf.size,λk hk=>(hf.keep k (h.base_im hk).1 (h.base_im hk)).1⟩
theorem below_of_frM {c:Pc} {X:Nat->Prop} {P:Nat} {w w':World} {ts:List Tok} {st:Sts} {d:Nat} (h:Pa c X P w ts st d) (hb:c.base<=c.mb) (hf:FrM w.heap.size P c.mb w w'):Below c.base w w' :=
 ⟨hf.os,hf.tape,hf.output,hf.size,λk hk=>(hf.keep k (h.base_im hk).1 (h.base_im hk)).1 (by omega)⟩
end Go.Proofs.YtfdjchnckjgapaaGreatDoor
