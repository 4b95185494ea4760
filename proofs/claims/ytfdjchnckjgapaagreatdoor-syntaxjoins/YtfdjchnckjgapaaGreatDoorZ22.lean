/-
  SenP TexP
-/
import Derived.Test.YtfdjchnckjgapaaGreatDoorZ21
import Derived.Test.YtfdjchnckjgapaaGreatDoorZ10
namespace Go.Proofs.YtfdjchnckjgapaaGreatDoor
set_option maxHeartbeats 16000000
set_option maxRecDepth 100000
open Go.RowKit Go.Shelf S1
set_option linter.unusedVariables false
theorem row_ne_map {w:World} {base e size n:Nat} {v:Value} {xs:List Value} {mb:Nat} {es:Array MapEntry} {ck:Nat} (h:w.ownsRow base e size v n xs) (hm:w.heap[mb]? = some (.map es ck)):∀k,v.ownBlock=some k->k≠mb:=λk hk q=>by
 rcases h.2 with ⟨rfl,_⟩ | ⟨g,cap,cur,rfl,_,hgg,_⟩
 · simp [Value.ownBlock] at hk
 · have:g=k:=by simpa [Value.ownBlock] using hk
   rw [this,q,hm] at hgg;cases hgg
theorem PT.below {c:Pc} {P:Nat} {w w':World} {rs:List RlV} {ts:List Tok} {st:Sts} (h:PT c P w rs ts st) (hB:Below w.heap.size w w'):PT c P w' rs ts st:=by
 obtain ⟨h1,h2,h3,h4,h5⟩:=h;have hf:=h1.fr hB;exact ⟨h1.below hB,own_block h2 (λk hk=>(hf.keep k (h3 k hk).1 (h3 k hk)).1),λk hk=>(hf.keep k (h3 k hk).1 (h3 k hk)).2,h4.to (λk hk=>⟨(hf.all k hk.1).1,(hf.all k hk.1).2,hk.2⟩),h5⟩
theorem sentence_any (c:Pc) (P:Nat) (w:World) (rs:List RlV) (t:Tok) (r:List Tok) (st:Sts) (hpt:PT c P w rs (t::r) st) (hbm:c.base<=c.mb) :
 Calls Tryz.prog 38 #[.pointer (some ⟨P,0,none⟩)] w λe w'=>SA c P (senM c.N (rs.map Prod.fst) (t::r) st) w e w':=by
 obtain ⟨i0,hi0,hz0,hz1,hz2⟩:=info_parts Tryz.infoRule8;have hPl:=hpt.1.lt;have h1:Calls Tryz.prog 82 #[.pointer (some ⟨P,0,none⟩),.string ⟨#[115,101,116]⟩] w λe w'=>AnsB w (tkWord wSet t) e w':=isWord_ans c _ P w t r st 0 hpt.1 wSet byt_set;obtain ⟨q,hq⟩ :∃q,q=senM c.N (rs.map Prod.fst) (t::r) st:=⟨_,rfl⟩;rw [<- hq];have HQ:Hid (q=senM c.N (rs.map Prod.fst) (t::r) st):=hq;have HPT:Hid (PT c P w rs (t::r) st):=hpt;have HBM:Hid (c.base<=c.mb):=hbm;clear hq hpt hbm;go_enter Tryz.func38,Tryz.ntmps38;cases hw:tkWord wSet t with
 | true =>
  rw [hw] at h1;have HE:Hid (q=match nameM c.N r with
   | .inl e => .inl e
   | .inr (N',r') => .inr (N',rs.map Prod.fst,r',st)):=by
   show _=_;rw [HQ.out];unfold senM;rw [if_pos (show tkWord wSet (hdT (t::r))=true from hw)];rfl
  have HK:Hid (t.k≠4):=word_end hw
  go_wp2_with fail
  refine h1.mono ?_;rintro e w1 ⟨rfl,hB1⟩;clear h1 hw;have HPT1:Hid (PT c P w1 rs (t::r) st):=HPT.out.below hB1;have h2:=naming_any c _ P w1 t r st HPT1.out.1 HK.out;obtain ⟨q2,hq2⟩ :∃q2,q2=nameM c.N r:=⟨_,rfl⟩;have HE2:Hid ((∀e,q2 = .inl e->q = .inl e)/\∀N' r',q2 = .inr (N',r')->q = .inr (N',rs.map Prod.fst,r',st)):=by
   have h5:=HE.out;rw [<- hq2] at h5;exact ⟨λe he=>by rw [h5,he],λN' r' he=>by rw [h5,he]⟩
  rw [<- hq2] at h2;have HB1:Hid (Below w.heap.size w w1):=hB1;clear hq2 HE HQ hB1
  go_wp2_with fail
  refine h2.mono ?_;rintro e w2 ⟨x,r2,N,rfl,hp2,hf2,hx⟩;clear h2;go_wp2;go_ret;obtain ⟨p1,p2,p3,p4,p5⟩:=HPT1.out;have hB2:Below c.base w w2:=(HB1.out.mono (by have:=HPT.out.1.rv.2.2;have:=HPT.out.1.lt;omega)).trans (below_of_frM p1 HBM.out hf2);refine ⟨x,rfl,hB2,?_⟩;rcases hx with ⟨e1,e2⟩ | ⟨e1,e2⟩
  · exact .inl ⟨e1,_,_,r2,st,HE2.out.1 _ e2,hp2⟩
  · obtain ⟨hmq,es,ck,hmap⟩:=p1.mapOf;have hne:=row_ne_map p2 hmap;refine .inr ⟨e1,c.rv,N,rs,r2,st,HE2.out.2 _ _ e2,hp2,own_block p2 (λk hk=>(hf2.keep k (p3 k hk).1 (p3 k hk)).1 (hne k hk)),λk hk=>(hf2.keep k (p3 k hk).1 (p3 k hk)).2,p4.to (λk hk => ?_),p5⟩;obtain ⟨a1,a2⟩:=hf2.keep k hk.1.1 hk.1.no;exact ⟨a1 hk.2,a2.with hk.1.2.2.2,hk.2⟩
 | false =>
  rw [hw] at h1
  go_wp2_with fail
  refine h1.mono ?_;rintro e w1 ⟨rfl,hB1⟩;clear h1;have HPT1:Hid (PT c P w1 rs (t::r) st):=HPT.out.below hB1;have h2:=beginsRule_ans c _ P w1 t r st 0 HPT1.out.1;cases hr:tkRule t with
  | false =>
   rw [hr] at h2;have HE:Hid (q = .inl (t::r,6)):=by
    show _=_;rw [HQ.out];unfold senM;rw [if_neg (by simp [hdT,hw]),if_pos (show tkRule (hdT (t::r))=false from hr)]
   go_wp2_with fail
   refine h2.mono ?_;rintro e w2 ⟨rfl,hB2⟩;clear h2;go_wp2;go_ret;have hB:=below_after hB1 hB2;exact ⟨6,rfl,below_of_fr HPT.out.1 (HPT.out.1.fr hB),.inl ⟨by decide,_,_,t::r,st,HE.out,HPT.out.1.below hB⟩⟩
  | true =>
   rw [hr] at h2;have HR0:Hid (tkRule t=true):=hr;have HW0:Hid (tkWord wSet t=false):=hw
   go_wp2_with fail
   refine h2.mono ?_;rintro e w2 ⟨rfl,hB2⟩;clear h2 hr hw;have HB2:Hid (Below w.heap.size w w2):=below_after hB1 hB2;have HPT2:Hid (PT c P w2 rs (t::r) st):=HPT.out.below HB2.out;clear hB1 hB2 HPT1;obtain ⟨c4,f4,_⟩:=HPT2.out.1.rv;obtain ⟨ra,rc,hrv⟩ :∃a cp,c.rv = .slice a rs.length cp:=by
    rcases HPT2.out.2.1.2 with ⟨e1,e2⟩ | ⟨g,cap,cur,e1,_⟩
    · exact ⟨none,0,by rw [e1,e2]⟩
    · exact ⟨_,_,e1⟩
   rw [hrv] at c4;have hPl2:=HPT2.out.1.lt;by_cases h64:rs.length=64
   · have h64':((rs.length:Int)==64)=true:=by simp;omega
     have HE:Hid (q = .inl (t::r,3)):=by
      show _=_;rw [HQ.out];unfold senM;rw [if_neg (by simp [hdT,HW0.out]),if_neg (by simp [hdT,HR0.out]),if_pos (by simpa using h64)]
     clear h64 hrv;go_wp2;go_ret;exact ⟨3,rfl,below_of_fr HPT.out.1 (HPT.out.1.fr HB2.out),.inl ⟨by decide,_,_,t::r,st,HE.out,HPT2.out.1⟩⟩
   · have h64':((rs.length:Int)==64)=false:=by simp;omega
     have HL64:Hid (rs.length<64):=by have:=HPT2.out.2.2.2.2;show _<_;omega
     have hl64:rs.length<64:=HL64.out;have h3:=rule_any c _ P w2 t r st HPT2.out.1 (rule_end HR0.out);obtain ⟨q2,hq2⟩ :∃q2,q2=ruleM c.N (t::r) st:=⟨_,rfl⟩;have HE2:Hid ((∀e,q2 = .inl e->q = .inl e)/\∀x r' st',q2 = .inr (x,r',st')->q = .inr (c.N,rs.map Prod.fst++[x],r',st')):=by
      have h5:=HQ.out;unfold senM at h5;rw [if_neg (by simp [hdT,HW0.out]),if_neg (by simp [hdT,HR0.out]),if_neg (by simpa using h64),<- hq2] at h5;exact ⟨λe he=>by rw [h5,he],λx r' st' he=>by rw [h5,he]⟩
     rw [<- hq2] at h3;have HRV:Hid (c.rv = .slice ra rs.length rc):=hrv;clear hq2 HQ h64 hrv
     go_wp2_with fail
     refine h3.mono ?_;rintro e w3 ⟨b,l,zl,n,zr,x,r3,st3,rfl,hzl,hzr,hp3,hf3,hx⟩;obtain ⟨za,zc,rfl,_⟩:=hzl.slice;obtain ⟨ya,yc,rfl,_⟩:=hzr.slice;obtain ⟨p1,p2,p3,p4,p5⟩:=HPT2.out;have hB4:Below w3.heap.size w3 ((w3.alloc (.cells #[.bool b,.int .i64 l.k,.int .i64 l.s,.slice za l.kids.length zc,.int .i64 n.k,.int .i64 n.s,.slice ya n.kids.length yc] 41)).alloc (.cells #[.bool b,.int .i64 l.k,.int .i64 l.s,.slice za l.kids.length zc,.int .i64 n.k,.int .i64 n.s,.slice ya n.kids.length yc] 41)):=below_after (below_alloc _ _) (below_alloc _ _);have hsz4:((w3.alloc (.cells #[.bool b,.int .i64 l.k,.int .i64 l.s,.slice za l.kids.length zc,.int .i64 n.k,.int .i64 n.s,.slice ya n.kids.length yc] 41)).alloc (.cells #[.bool b,.int .i64 l.k,.int .i64 l.s,.slice za l.kids.length zc,.int .i64 n.k,.int .i64 n.s,.slice ya n.kids.length yc] 41)).heap.size=w3.heap.size+2:=by simp
     have hp4:=hp3.below hB4;have hfr4:=hp3.fr hB4;have hf24:=hf3.then hfr4 hf3.size
     have HOW4:Hid (((w3.alloc (.cells #[.bool b,.int .i64 l.k,.int .i64 l.s,.slice za l.kids.length zc,.int .i64 n.k,.int .i64 n.s,.slice ya n.kids.length yc] 41)).alloc (.cells #[.bool b,.int .i64 l.k,.int .i64 l.s,.slice za l.kids.length zc,.int .i64 n.k,.int .i64 n.s,.slice ya n.kids.length yc] 41)).drew.ownsRow c.base 41 7 (.slice ra rs.length rc) rs.length (cellsRls rs)):=by
      have h5:=own_block p2 (w':=((w3.alloc (.cells #[.bool b,.int .i64 l.k,.int .i64 l.s,.slice za l.kids.length zc,.int .i64 n.k,.int .i64 n.s,.slice ya n.kids.length yc] 41)).alloc (.cells #[.bool b,.int .i64 l.k,.int .i64 l.s,.slice za l.kids.length zc,.int .i64 n.k,.int .i64 n.s,.slice ya n.kids.length yc] 41))) (λk hk=>(hf24.keep k (p3 k hk).1 (p3 k hk)).1);rw [HRV.out] at h5;exact h5.drew
     have HVI4:Hid (∀k,(Value.slice ra rs.length rc).ownBlock=some k->Im NoX ((w3.alloc (.cells #[.bool b,.int .i64 l.k,.int .i64 l.s,.slice za l.kids.length zc,.int .i64 n.k,.int .i64 n.s,.slice ya n.kids.length yc] 41)).alloc (.cells #[.bool b,.int .i64 l.k,.int .i64 l.s,.slice za l.kids.length zc,.int .i64 n.k,.int .i64 n.s,.slice ya n.kids.length yc] 41)) P k):=λk hk=>by
      have hk':c.rv.ownBlock=some k:=by rw [HRV.out];exact hk
      exact (hf24.keep k (p3 k hk').1 (p3 k hk')).2
     have hxv:XV NoX c.rv=XV NoX (.slice ra rs.length rc):=by rw [HRV.out]
     rw [hxv] at hp4 p4 hzl hzr;have HP4:Hid (Pa c (XV NoX (.slice ra rs.length rc)) P ((w3.alloc (.cells #[.bool b,.int .i64 l.k,.int .i64 l.s,.slice za l.kids.length zc,.int .i64 n.k,.int .i64 n.s,.slice ya n.kids.length yc] 41)).alloc (.cells #[.bool b,.int .i64 l.k,.int .i64 l.s,.slice za l.kids.length zc,.int .i64 n.k,.int .i64 n.s,.slice ya n.kids.length yc] 41)) r3 st3 0):=hp4;have HN4:Hid (((w3.alloc (.cells #[.bool b,.int .i64 l.k,.int .i64 l.s,.slice za l.kids.length zc,.int .i64 n.k,.int .i64 n.s,.slice ya n.kids.length yc] 41)).alloc (.cells #[.bool b,.int .i64 l.k,.int .i64 l.s,.slice za l.kids.length zc,.int .i64 n.k,.int .i64 n.s,.slice ya n.kids.length yc] 41)).drew.heap[w3.heap.size+1]? = some (.cells #[.bool b,.int .i64 l.k,.int .i64 l.s,.slice za l.kids.length zc,.int .i64 n.k,.int .i64 n.s,.slice ya n.kids.length yc] 41 (0,0))):=by
      have:=heap_new' (w3.alloc (.cells #[.bool b,.int .i64 l.k,.int .i64 l.s,.slice za l.kids.length zc,.int .i64 n.k,.int .i64 n.s,.slice ya n.kids.length yc] 41)) (.cells #[.bool b,.int .i64 l.k,.int .i64 l.s,.slice za l.kids.length zc,.int .i64 n.k,.int .i64 n.s,.slice ya n.kids.length yc] 41);rw [World.size_alloc] at this;exact this
     obtain ⟨hmq,es,ck,hmap⟩:=p1.mapOf;have hmap4:=(hf24.keep c.mb hmq.1 hmq.no).1.trans hmap;have HX4:Hid (RlX (λk=>Im (XV NoX (.slice ra rs.length rc)) ((w3.alloc (.cells #[.bool b,.int .i64 l.k,.int .i64 l.s,.slice za l.kids.length zc,.int .i64 n.k,.int .i64 n.s,.slice ya n.kids.length yc] 41)).alloc (.cells #[.bool b,.int .i64 l.k,.int .i64 l.s,.slice za l.kids.length zc,.int .i64 n.k,.int .i64 n.s,.slice ya n.kids.length yc] 41)) P k/\k≠c.mb) ((w3.alloc (.cells #[.bool b,.int .i64 l.k,.int .i64 l.s,.slice za l.kids.length zc,.int .i64 n.k,.int .i64 n.s,.slice ya n.kids.length yc] 41)).alloc (.cells #[.bool b,.int .i64 l.k,.int .i64 l.s,.slice za l.kids.length zc,.int .i64 n.k,.int .i64 n.s,.slice ya n.kids.length yc] 41)) (rs++[((⟨b,l,n⟩:Rl),Value.slice za l.kids.length zc,Value.slice ya n.kids.length yc)])):=λy hy=>by
      rcases List.mem_append.1 hy with hy | hy
      · exact (p4.to (w':=((w3.alloc (.cells #[.bool b,.int .i64 l.k,.int .i64 l.s,.slice za l.kids.length zc,.int .i64 n.k,.int .i64 n.s,.slice ya n.kids.length yc] 41)).alloc (.cells #[.bool b,.int .i64 l.k,.int .i64 l.s,.slice za l.kids.length zc,.int .i64 n.k,.int .i64 n.s,.slice ya n.kids.length yc] 41))) (Q':=λk=>Im (XV NoX (.slice ra rs.length rc)) ((w3.alloc (.cells #[.bool b,.int .i64 l.k,.int .i64 l.s,.slice za l.kids.length zc,.int .i64 n.k,.int .i64 n.s,.slice ya n.kids.length yc] 41)).alloc (.cells #[.bool b,.int .i64 l.k,.int .i64 l.s,.slice za l.kids.length zc,.int .i64 n.k,.int .i64 n.s,.slice ya n.kids.length yc] 41)) P k/\k≠c.mb) (λk hk=>⟨(hf24.all k hk.1).1,(hf24.all k hk.1).2,hk.2⟩)) y hy
      · obtain rfl:y=((⟨b,l,n⟩:Rl),Value.slice za l.kids.length zc,Value.slice ya n.kids.length yc):=by simpa using hy
        exact ⟨(hzl.to (λk hk=>hfr4.all k hk.2)).off hmap4,(hzr.to (λk hk=>hfr4.all k hk.2)).off hmap4⟩
     have HF4:Hid (Fr w.heap.size P w ((w3.alloc (.cells #[.bool b,.int .i64 l.k,.int .i64 l.s,.slice za l.kids.length zc,.int .i64 n.k,.int .i64 n.s,.slice ya n.kids.length yc] 41)).alloc (.cells #[.bool b,.int .i64 l.k,.int .i64 l.s,.slice za l.kids.length zc,.int .i64 n.k,.int .i64 n.s,.slice ya n.kids.length yc] 41))):=(HPT.out.1.fr HB2.out).then hf24 HB2.out.size
     have HSZ4:Hid (((w3.alloc (.cells #[.bool b,.int .i64 l.k,.int .i64 l.s,.slice za l.kids.length zc,.int .i64 n.k,.int .i64 n.s,.slice ya n.kids.length yc] 41)).alloc (.cells #[.bool b,.int .i64 l.k,.int .i64 l.s,.slice za l.kids.length zc,.int .i64 n.k,.int .i64 n.s,.slice ya n.kids.length yc] 41)).heap.size=w3.heap.size+2):=hsz4;have hbs:c.base<=w3.heap.size:=by have:=p1.rv.2.2;have:=hp3.lt;omega
     have HXQ:Hid ((x≠0/\q = .inl (r3,x))\/(x=0/\q = .inr (c.N,(rs++[((⟨b,l,n⟩:Rl),Value.slice za l.kids.length zc,Value.slice ya n.kids.length yc)]).map Prod.fst,r3,st3))):=by
      rcases hx with ⟨e1,e2⟩ | ⟨e1,e2⟩
      · exact .inl ⟨e1,HE2.out.1 _ e2⟩
      · exact .inr ⟨e1,by rw [HE2.out.2 _ _ _ e2];simp⟩
     have hPl3:=hp3.lt;obtain ⟨c4',f4',_⟩:=hp3.rv;rw [HRV.out] at c4';obtain ⟨c4a,f4a,_⟩:=hp4.rv;rw [HRV.out] at c4a;have HC4:Hid (((w3.alloc (.cells #[.bool b,.int .i64 l.k,.int .i64 l.s,.slice za l.kids.length zc,.int .i64 n.k,.int .i64 n.s,.slice ya n.kids.length yc] 41)).alloc (.cells #[.bool b,.int .i64 l.k,.int .i64 l.s,.slice za l.kids.length zc,.int .i64 n.k,.int .i64 n.s,.slice ya n.kids.length yc] 41)).drew.cell? ⟨P,4,none⟩=some (.slice ra rs.length rc)):=c4a;have HFZ4:Hid (((w3.alloc (.cells #[.bool b,.int .i64 l.k,.int .i64 l.s,.slice za l.kids.length zc,.int .i64 n.k,.int .i64 n.s,.slice ya n.kids.length yc] 41)).alloc (.cells #[.bool b,.int .i64 l.k,.int .i64 l.s,.slice za l.kids.length zc,.int .i64 n.k,.int .i64 n.s,.slice ya n.kids.length yc] 41)).drew.frozen? ⟨P,4,none⟩=false):=f4a;have HNP:Hid (some P≠(Value.slice ra rs.length rc).ownBlock):=λq=>(HVI4.out P q.symm).2.1 rfl;have hPl4:P<((w3.alloc (.cells #[.bool b,.int .i64 l.k,.int .i64 l.s,.slice za l.kids.length zc,.int .i64 n.k,.int .i64 n.s,.slice ya n.kids.length yc] 41)).alloc (.cells #[.bool b,.int .i64 l.k,.int .i64 l.s,.slice za l.kids.length zc,.int .i64 n.k,.int .i64 n.s,.slice ya n.kids.length yc] 41)).heap.size:=hp4.lt;have HPl4:Hid (P<((w3.alloc (.cells #[.bool b,.int .i64 l.k,.int .i64 l.s,.slice za l.kids.length zc,.int .i64 n.k,.int .i64 n.s,.slice ya n.kids.length yc] 41)).alloc (.cells #[.bool b,.int .i64 l.k,.int .i64 l.s,.slice za l.kids.length zc,.int .i64 n.k,.int .i64 n.s,.slice ya n.kids.length yc] 41)).drew.heap.size):=hPl4;clear h3 hzl hzr hp3 hf3 hx p1 p2 p3 p4 p5 hB4 hsz4 hp4 hfr4 hf24 hxv hmq hmap hmap4 HE2 c4 f4 c4a f4a hPl4;go_wp2
     go_region_law (refine step_append_lies _ (by rfl) (.tmp 36) (.tmp 38) 25 (by rfl) c.base 41 i0 (.agg #[.bool false,.int .i64 0,.int .i64 0,.slice none 0 0,.int .i64 0,.int .i64 0,.slice none 0 0]) 7 88 Tryz.underlying25 hi0 hz0 hz1 hz2 rfl (by decide) (.slice ra rs.length rc) rs.length (cellsRls rs) (by rfl) (by exact HOW4.out) ⟨w3.heap.size+1,0,none⟩ 1 1 [.bool b,.int .i64 l.k,.int .i64 l.s,.slice za l.kids.length zc,.int .i64 n.k,.int .i64 n.s,.slice ya n.kids.length yc] (by rfl) rfl (by exact World.news_of_block HN4.out) (by simp [Value.oneCell']) (by omega) (by unfold maxLen;omega) (by omega) (by simp [World.drew];omega) _ rfl ?_;intro g cap2 w5 hown5 hgrow5 hat5 hlt5;have c45:w5.cell? ⟨P,4,none⟩=some (.slice ra rs.length rc):=hgrow5.cell HC4.out HNP.out;have f45:w5.frozen? ⟨P,4,none⟩=false:=(World.frozen?_of_block (a:=⟨P,4,none⟩) (hgrow5.block P HPl4.out HNP.out)).trans HFZ4.out)
     all_goals
      have HFN:Hid (SA c P q w (.returned (.int .i64 x)) (w5.setCell ⟨P,4,none⟩ (.slice (some ⟨g,0,none⟩) (rs.length+1) cap2))):=by
       have hg5:((w3.alloc (.cells #[.bool b,.int .i64 l.k,.int .i64 l.s,.slice za l.kids.length zc,.int .i64 n.k,.int .i64 n.s,.slice ya n.kids.length yc] 41)).alloc (.cells #[.bool b,.int .i64 l.k,.int .i64 l.s,.slice za l.kids.length zc,.int .i64 n.k,.int .i64 n.s,.slice ya n.kids.length yc] 41)).grownBy w5 (Value.slice ra rs.length rc).ownBlock:=⟨hgrow5.os,hgrow5.tape,hgrow5.output,hgrow5.size,hgrow5.block⟩;have hn6:∀k,(Value.slice (some ⟨g,0,none⟩) (rs.length+1) cap2).ownBlock=some k->(Value.slice ra rs.length rc).ownBlock=some k\/((w3.alloc (.cells #[.bool b,.int .i64 l.k,.int .i64 l.s,.slice za l.kids.length zc,.int .i64 n.k,.int .i64 n.s,.slice ya n.kids.length yc] 41)).alloc (.cells #[.bool b,.int .i64 l.k,.int .i64 l.s,.slice za l.kids.length zc,.int .i64 n.k,.int .i64 n.s,.slice ya n.kids.length yc] 41)).heap.size<=k:=λk hk=>by
        obtain rfl:g=k:=by simpa [Value.ownBlock] using hk
        rcases hat5 with q | q
        · exact .inl q
        · exact .inr (by rw [q];exact Nat.le_refl _)
       have hp6:=HP4.out.regrow (v' := .slice (some ⟨g,0,none⟩) (rs.length+1) cap2) (λk hk=>HVI4.out k hk) hg5 hn6 (λk hk=>(show g=k by simpa [Value.ownBlock] using hk) ▸ hlt5);obtain ⟨rg1,rg2,rg3⟩:=regrow (X:=NoX) (v' := .slice (some ⟨g,0,none⟩) (rs.length+1) cap2) (λk hk=>HVI4.out k hk) HP4.out.lt hg5 hn6;have hI6:=regrow_im (X:=NoX) (g:=g) (HP4.out.less (λk q=>q.elim)) (λk hk=>HVI4.out k hk) hg5 hat5 hlt5;have hgP:g≠P:=hI6.2.1;have hp7:=hp6.setrv (.slice (some ⟨g,0,none⟩) (rs.length+1) cap2);have hf7:Fr w5.heap.size P w5 (w5.setCell ⟨P,4,none⟩ (.slice (some ⟨g,0,none⟩) (rs.length+1) cap2)):=fr_own w5 4 (by decide) _;have hB7:Below c.base w (w5.setCell ⟨P,4,none⟩ (.slice (some ⟨g,0,none⟩) (rs.length+1) cap2)):=by
        have h1:=below_of_fr HPT.out.1 HF4.out;refine h1.trans ⟨hg5.os,hg5.tape,hg5.output,by have:=hg5.size;simpa [World.setCell] using this,λk hk => ?_⟩;have hbP:=HPT.out.1.rv.2.2;have hlt4:k<((w3.alloc (.cells #[.bool b,.int .i64 l.k,.int .i64 l.s,.slice za l.kids.length zc,.int .i64 n.k,.int .i64 n.s,.slice ya n.kids.length yc] 41)).alloc (.cells #[.bool b,.int .i64 l.k,.int .i64 l.s,.slice za l.kids.length zc,.int .i64 n.k,.int .i64 n.s,.slice ya n.kids.length yc] 41)).heap.size:=by rw [HSZ4.out];omega
        have hne:some k≠(Value.slice ra rs.length rc).ownBlock:=λq=>by
         have:=(HOW4.out.lt k q.symm).1;omega
        exact (Below.heap_setCell w5 ⟨P,4,none⟩ _ k (by simp;omega)).trans (hg5.block k hlt4 hne)
       refine ⟨x,rfl,hB7,?_⟩;rcases HXQ.out with ⟨e1,e2⟩ | ⟨e1,e2⟩
       · exact .inl ⟨e1,_,_,r3,st3,e2,hp7⟩
       · refine .inr ⟨e1,.slice (some ⟨g,0,none⟩) (rs.length+1) cap2,c.N,rs++[((⟨b,l,n⟩:Rl),Value.slice za l.kids.length zc,Value.slice ya n.kids.length yc)],r3,st3,e2,hp7,?_,λk hk => ?_,?_,by simp;omega⟩
         · have h8:w5.ownsRow c.base 41 7 (.slice (some ⟨g,0,none⟩) (rs.length+1) cap2) (rs++[((⟨b,l,n⟩:Rl),Value.slice za l.kids.length zc,Value.slice ya n.kids.length yc)]).length (cellsRls (rs++[((⟨b,l,n⟩:Rl),Value.slice za l.kids.length zc,Value.slice ya n.kids.length yc)])):=by
            rw [cellsRls_snoc,List.length_append];exact hown5
           exact own_block h8 (λk hk=>Below.heap_setCell w5 ⟨P,4,none⟩ _ k (λq=>hgP ((show g=k by
            have hk':(Value.slice (some ⟨g,0,none⟩) (rs.length+1) cap2).ownBlock=some k:=hk;simpa [Value.ownBlock] using hk').trans q)))
         · obtain rfl:g=k:=by
            have hk':(Value.slice (some ⟨g,0,none⟩) (rs.length+1) cap2).ownBlock=some k:=hk;simpa [Value.ownBlock] using hk'
           exact (hf7.keep g hI6.1 hI6).2
         · exact HX4.out.to (λk hk=>by
            obtain ⟨a1,a2⟩:=rg1 k hk.1;obtain ⟨a3,a4⟩:=hf7.all k a2;exact ⟨a3.trans a1,a4,hk.2⟩)
      clear hown5 hgrow5 hat5 hlt5 HC4 HFZ4 HOW4 HX4 HP4 HVI4 HN4 HF4 HXQ;go_wp2;go_ret;exact HFN.out
set_option maxHeartbeats 8000000
set_option maxRecDepth 100000
def TxA (c:Pc) (P:Nat) (q:(List Tok×Int) ⊕ (List Rl×Sts)) (w:World) (e:Ending) (w':World):Prop :=
 ∃x,e = .returned (.int .i64 x)/\Below c.base w w'/\((x≠0/\∃c' X r st,q = .inl (r,x)/\Pa c' X P w' r st 0)\/(x=0/\∃rv N rs r st,q = .inr (rs.map Prod.fst,st)/\PT (c.up rv N) P w' rs r st))
theorem text_any (c:Pc) (P:Nat) (w:World) (rs:List RlV) (ts:List Tok) (st:Sts) (hpt:PT c P w rs ts st) (hbm:c.base<=c.mb) (f:Nat) (hf0:ts.length<f) :
 Calls Tryz.prog 19 #[.pointer (some ⟨P,0,none⟩)] w λe w'=>TxA c P (textF f c.N (rs.map Prod.fst) ts st) w e w':=by
 obtain ⟨q,hq⟩ :∃q,q=textF f c.N (rs.map Prod.fst) ts st:=⟨_,rfl⟩;rw [<- hq];have HQ:Hid (textF f c.N (rs.map Prod.fst) ts st=q):=hq.symm;have HBM:Hid (c.base<=c.mb):=hbm;have HPT:Hid (PT c P w rs ts st):=hpt;clear hq hpt hbm;go_enter Tryz.func19,Tryz.ntmps19;go_wp2
 go_loopw [] (λwr=>∃(f:Nat) (rv:Value) (N:Nms) (rs:List RlV) (r:List Tok) (st:Sts),r.length<f/\Hid (textF f N (rs.map Prod.fst) r st=q)/\PT (c.up rv N) P wr rs r st/\Below c.base w wr) (λwr=>leftP c.n wr P)
 case atStart=>exact ⟨f,c.rv,c.N,rs,ts,st,hf0,HQ,HPT.out,Below.refl _ _⟩
 case round =>
  obtain ⟨f,rv,N,rs,r,st,hrf,HEQ,hpt,hB⟩:=hrel;obtain ⟨f,rfl⟩ :∃k,f=k+1:=⟨f-1,by omega⟩;obtain ⟨t,r',rfl⟩:=hpt.1.ends.cons;have hl0:leftP c.n wr P=(t::r').length:=hpt.1.left;have h1:=more_any (c.up rv N) _ P wr t r' st 0 hpt.1;have HPR:Hid (PT (c.up rv N) P wr rs (t::r') st):=hpt;clear hpt;by_cases hk:t.k=4
  · have hk':(t.k != 4)=false:=by simpa using hk
    have HE:Hid (q = .inr (rs.map Prod.fst,st)):=by
     show _=_;rw [<- HEQ.out];exact textF_end hk
    rw [hk'] at h1;clear hk
    go_wp2_with fail
    refine h1.mono ?_;rintro e w1 ⟨rfl,hB1⟩;clear h1;go_wp2;go_ret;refine ⟨0,rfl,hB.trans (hB1.mono ?_),.inr ⟨rfl,rv,N,rs,t::r',st,HE.out,HPR.out.below hB1⟩⟩;have h2:c.base<=P:=HPR.out.1.rv.2.2;have:=HPR.out.1.lt;omega
  · have hk':(t.k != 4)=true:=by simpa using hk
    rw [hk'] at h1;have HK:Hid (t.k≠4):=hk;clear hk
    go_wp2_with fail
    refine h1.mono ?_;rintro e w1 ⟨rfl,hB1⟩;clear h1;have HP1:Hid (PT (c.up rv N) P w1 rs (t::r') st):=HPR.out.below hB1;have hB01:Below c.base w w1:=hB.trans (hB1.mono (by
     have h2:c.base<=P:=HPR.out.1.rv.2.2;have:=HPR.out.1.lt;omega))
    have h2:=sentence_any (c.up rv N) P w1 rs t r' st HP1.out HBM.out;obtain ⟨qs,hqs⟩ :∃qs,qs=senM (c.up rv N).N (rs.map Prod.fst) (t::r') st:=⟨_,rfl⟩;rw [<- hqs] at h2;have HQS:Hid (senM N (rs.map Prod.fst) (t::r') st=qs):=hqs.symm;clear hqs hB hB1
    go_wp2_with fail
    refine h2.mono ?_;rintro e w2 ⟨x,rfl,hB2,hx⟩;have hB02:Below c.base w w2:=hB01.trans hB2;clear h2 hB2 hB01;rcases hx with ⟨hx,c',X,r2,st2,he,hp⟩ | ⟨rfl,rv2,N2,rs2,r2,st2,he,hpt2⟩
    · have hx':(x != 0)=true:=by simpa using hx
      have HX:Hid (x≠0):=hx;have HE:Hid (q = .inl (r2,x)):=by
       show _=_;rw [<- HEQ.out];exact textF_bad (ts:=t::r') HK.out (HQS.out.trans he)
      clear hx he;go_wp2;go_ret;exact ⟨x,rfl,hB02,.inl ⟨HX.out,c',X,r2,st2,HE.out,hp⟩⟩
    · have hle:=senM_left (ts:=t::r') HK.out (HQS.out.trans he);have HE:Hid (textF f N2 (rs2.map Prod.fst) r2 st2=q):=by
       show _=_;rw [<- HEQ.out];exact (textF_on (ts:=t::r') HK.out (HQS.out.trans he)).symm
      have HLE:Hid (r2.length<(t::r').length):=hle;have HLF:Hid (r2.length<f):=by
       have h5:(t::r').length<f+1:=hrf;show _<_;omega
      clear he hle hrf;go_wp2
      go_roundw
      case rel=>exact ⟨f,rv2,N2,rs2,r2,st2,HLF.out,HE,hpt2,hB02⟩
      case measure =>
       have h5:leftP c.n w2 P=r2.length:=hpt2.1.left;rw [h5,hl0];exact HLE.out
theorem letL_nonneg {us r:List U} {x:Int} (hus:∀u∈us,0<=u.r) (h:letL us=(some x,r)):0<=x/\∀u∈r,0<=u.r:=by
 have hs:∀ {p:Int->Bool} {a b:List U} {y:Int},(∀u∈a,0<=u.r)->sgn p a=(some y,b)->0<=y/\∀u∈b,0<=u.r:=λha h=>by
  obtain ⟨u,rfl,_,rfl⟩:=sgn_some h;exact ⟨ha u (by simp),λv hv=>ha v (by simp [hv])⟩
 unfold letL at h
 split at h
 · exact hs hus h
 · rename_i a c;have h1:=(hs hus c).2
   split at h
   · exact hs h1 h
   · rename_i a2 c2;have h2:=(hs h1 c2).2
     split at h
     · simp at h
     · rename_i a3 c3;have h3:=(hs h2 c3).2;have hfl:∀(n:Nat) (us:List U),(∀u∈us,0<=u.r)->(∀c∈figsL n us,figR c=true)/\∀u∈figsD n us,0<=u.r:=by
        intro n
        induction n with
        | zero=>intro us hu;exact ⟨λc hc=>by simp [figsL] at hc,by simpa [figsD] using hu⟩
        | succ n ih =>
         intro us hu
         match us with
         | []=>exact ⟨λc hc=>by simp [figsL] at hc,λu hu=>by simp [figsD] at hu⟩
         | u::t =>
          unfold figsL figsD
          split
          · rename_i hf;obtain ⟨i1,i2⟩:=ih t (λv hv=>hu v (by simp [hv]));refine ⟨λc hc => ?_,i2⟩;rcases List.mem_cons.1 hc with rfl | hc
            · simp [fitU] at hf;exact hf.2
            · exact i1 c hc
          · exact ⟨λc hc=>by simp at hc,hu⟩
       unfold numL at h
       split at h
       · simp at h
       · split at h
         · rename_i x4 r4 c4;simp only [Prod.mk.injEq,Option.some.injEq] at h;obtain ⟨rfl,rfl⟩:=h;obtain ⟨f1,f2⟩:=hfl 6 _ h3;refine ⟨?_,(hs f2 c4).2⟩;have key:∀(l:List Int) (acc:Int),(∀c∈l,figR c=true)->0<=acc->0<=l.foldl (λn c=>n*16+figV c) acc:=by
            intro l
            induction l with
            | nil=>intro acc _ h;exact h
            | cons c l ih =>
             intro acc hl ha;have hc:=hl c (by simp);have hv:0<=figV c:=by
              simp [figR,decB] at hc;unfold figV
              split<;>omega
             exact ih _ (λd hd=>hl d (by simp [hd])) (by show 0<=acc*16+figV c;omega)
           exact key _ 0 f1 (by omega)
         · simp at h
theorem entL_nonneg {us r:List U} {e:Rg} (hus:∀u∈us,0<=u.r) (h:entL us=(some e,r)):0<=e.lo/\∀u∈r,0<=u.r:=by
 unfold entL at h
 split at h
 · simp at h
 · rename_i lo a c;obtain ⟨h1,h2⟩:=letL_nonneg hus c
   split at h
   · simp only [Prod.mk.injEq,Option.some.injEq] at h;obtain ⟨rfl,rfl⟩:=h;exact ⟨h1,h2⟩
   · rename_i a2 c2;obtain ⟨u,hu,_,_⟩:=sgn_some c2
     split at h
     · simp at h
     · rename_i hi b c3;have h3:=(letL_nonneg (λv hv=>h2 v (by rw [hu];simp [hv])) c3).2;simp only [Prod.mk.injEq,Option.some.injEq] at h;obtain ⟨rfl,rfl⟩:=h;exact ⟨h1,h3⟩
theorem setF_fits {n:Nat}:∀ {k:Nat} {us r:List U} {acc l:List Rg},(∀u∈us,0<=u.r)->Fits acc->setF n k us acc=SR.good l r->Fits l/\∀u∈r,0<=u.r
 | 0,us,r,acc,l,hu,ha,h=>by cases h
 | k+1,us,r,acc,l,hu,ha,h=>by
  cases h1:sgn (isC 93) us with
  | mk o s=>cases o with
   | some x =>
    rw [setF_end h1] at h;obtain ⟨e1,e2⟩:=Prod.mk.inj (Sum.inr.inj h);obtain ⟨u,rfl,_,_⟩:=sgn_some h1;rw [<- e1,<- e2];exact ⟨ha,λv hv=>hu v (by simp [hv])⟩
   | none=>cases h2:entL us with
    | mk o2 r2=>cases o2 with
     | none=>rw [setF_stuck h1 h2] at h;cases h
     | some e =>
      cases h3:(decide (e.hi<e.lo)||decide (1114111<e.hi)) with
      | true=>rw [setF_arg h1 h2 h3] at h;cases h
      | false =>
       rw [setF_on h1 h2 h3] at h;obtain ⟨n1,n2⟩:=entL_nonneg hu h2;refine setF_fits n2 (λx hx => ?_) h;rcases List.mem_append.1 hx with q | q
       · exact ha x q
       · obtain rfl:x=e:=by simpa using q
         simp at h3;exact ⟨n1,by omega,by omega⟩
def TkOk (m:Nat) (t:Tok):Prop:=Fits t.s/\Byt t.t/\t.t.length<=m
theorem tokO_ok {n m:Nat} {us r:List U} {t:Tok} (hu:∀u∈us,0<=u.r) (hm:us.length<=m) (h:tokO n us=OR.good t r):TkOk m t/\∀u∈r,0<=u.r:=by
 have hf0:Fits []:=λx hx=>(by cases hx)
 match us,hu,hm,h with
 | [],hu,hm,h =>
  obtain ⟨e1,e2⟩:=Prod.mk.inj (Sum.inr.inj (show OR.good ⟨4,n,[],[]⟩ []=OR.good t r from h));rw [<- e1,<- e2];exact ⟨⟨hf0,λc hc=>(by cases hc),Nat.zero_le _⟩,λu hu=>(by cases hu)⟩
 | u::us,hu,hm,h =>
  rw [tokO_cons] at h
  split at h
  · rename_i hn;obtain ⟨e1,e2⟩:=Prod.mk.inj (Sum.inr.inj h);rw [<- e1,<- e2];refine ⟨⟨hf0,λc hc => ?_,?_⟩,λv hv=>hu v (List.mem_cons_of_mem _ (by
     rw [take_drop_while (fitU nameR) us];exact List.mem_append_right _ hv))⟩
    · rcases List.mem_cons.1 hc with rfl | hc
      · have h5:=(fit_name hn).2;have h6:=hu u (by simp);omega
      · obtain ⟨v,hv,rfl⟩:=List.mem_map.1 hc;have h5:=(fit_inName (takeWhile_all _ _ v hv)).2;have h6:=hu v (List.mem_cons_of_mem _ (by
         rw [take_drop_while (fitU nameR) us];exact List.mem_append_left _ hv))
        omega
    · have h5:=congrArg List.length (take_drop_while (fitU nameR) us);rw [List.length_append] at h5;simp at hm ⊢;omega
  · split at h
    · rename_i hn;obtain ⟨e1,e2⟩:=Prod.mk.inj (Sum.inr.inj h);rw [<- e1,<- e2];refine ⟨⟨hf0,λc hc => ?_,by simp at hm ⊢;omega⟩,λv hv=>hu v (by simp [hv])⟩;obtain rfl:c=u.r:=by simpa using hc
      have h5:=(fit_tok hn).2;have h6:=hu u (by simp);omega
    · split at h
      · cases h1:setF n (us.length+1) us [] with
        | inl x=>rw [h1] at h;cases h
        | inr x =>
         obtain ⟨l,s⟩:=x;rw [h1] at h;obtain ⟨e1,e2⟩:=Prod.mk.inj (Sum.inr.inj h);obtain ⟨f1,f2⟩:=setF_fits (λv hv=>hu v (by simp [hv])) hf0 h1;rw [<- e1,<- e2];exact ⟨⟨f1,λc hc=>(by cases hc),Nat.zero_le _⟩,f2⟩
      · cases h
theorem blankL_suf:∀(b:Bool) (us:List U),∀u∈blankL b us,u∈us
 | _,[],u,h=>by simp [blankL] at h
 | true,v::t,u,h=>by
  unfold blankL at h
  split at h
  · exact h
  · split at h
    · exact List.mem_cons_of_mem _ (blankL_suf false t u h)
    · exact List.mem_cons_of_mem _ (blankL_suf true t u h)
 | false,v::t,u,h=>by
  unfold blankL at h
  split at h
  · exact h
  · split at h
    · exact List.mem_cons_of_mem _ (blankL_suf true t u h)
    · split at h
      · exact List.mem_cons_of_mem _ (blankL_suf false t u h)
      · exact h
theorem endsT_snoc:∀ {l:List Tok} {t:Tok},(∀x∈l,x.k≠4)->t.k=4->EndsT (l++[t])
 | [],t,_,h=>h
 | [x],t,hl,h=>⟨hl x (by simp),h⟩
 | x::y::l,t,hl,h=>⟨hl x (by simp),endsT_snoc (l:=y::l) (λz hz=>hl z (by simp [hz])) h⟩
theorem toksF_ok {n m:Nat}:∀ {k:Nat} {us:List U} {acc l:List Tok},(∀u∈us,0<=u.r)->us.length<=m->(∀t∈acc,TkOk m t/\t.k≠4)->toksF n k us acc=TR.good l->EndsT l/\∀t∈l,TkOk m t
 | 0,us,acc,l,hu,hm,ha,h=>by cases h
 | k+1,us,acc,l,hu,hm,ha,h=>by
  have hb:∀u∈blankL false us,0<=u.r:=λu h=>hu u (blankL_suf _ _ u h);have hbl:=blankL_le false us;cases h1:tokO n (blankL false us) with
  | inl x=>obtain ⟨a,e⟩:=x;rw [toksF_bad h1] at h;cases h
  | inr x =>
   obtain ⟨t,r⟩:=x;obtain ⟨o1,o2⟩:=tokO_ok hb (show (blankL false us).length<=m by omega) h1;by_cases h4:t.k=4
   · rw [toksF_end h1 h4] at h;obtain rfl:=Sum.inr.inj h;refine ⟨endsT_snoc (λx hx=>(ha x hx).2) h4,λx hx => ?_⟩;rcases List.mem_append.1 hx with q | q
     · exact (ha x q).1
     · obtain rfl:x=t:=by simpa using q
       exact o1
   · rw [toksF_on h1 h4] at h;have hlen:=tokO_len h1;refine toksF_ok o2 (by rcases hlen with ⟨q,_⟩ | ⟨_,q⟩<;>first | exact absurd q h4 | omega) (λx hx => ?_) h;rcases List.mem_append.1 hx with q | q
     · exact ha x q
     · obtain rfl:x=t:=by simpa using q
       exact ⟨o1,h4⟩
theorem toks_ok {zs:List Int} {us:List U} (hr:Run zs 0 us zs.length) {l:List Tok} (h:toksL zs.length us=TR.good l):EndsT l/\∀t∈l,TkOk zs.length t:=by
 have hlen:=Run.le hr (Nat.zero_le _);exact toksF_ok (λu hu=>(run_range hr u hu).1) (by omega) (λt ht=>(by cases ht)) h
theorem endsT_map {l:List Tok} (h:EndsT l):EndsT (l.map canT):=by
 match l,h with
 | [t],h=>exact h
 | t::u::l,h=>exact ⟨h.1,endsT_map h.2⟩
end Go.Proofs.YtfdjchnckjgapaaGreatDoor
