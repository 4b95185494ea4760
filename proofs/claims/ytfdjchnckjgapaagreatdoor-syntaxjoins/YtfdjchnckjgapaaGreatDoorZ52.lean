/-
  LawJoins8
-/
import Derived.Test.YtfdjchnckjgapaaGreatDoorZ51
import Derived.Test.YtfdjchnckjgapaaGreatDoorZ39
import Derived.Test.YtfdjchnckjgapaaGreatDoorZ47
namespace Go.Proofs.YtfdjchnckjgapaaGreatDoor
set_option maxHeartbeats 16000000
set_option maxRecDepth 100000
open Go.RowKit Go.Shelf S1
set_option linter.unusedVariables false
theorem TxtB.src {w:World} {v:Value} {l:List Int} (h:TxtB w v l):SrcIs w v l.length 1 (l.map (Value.int .u8)):=by
 obtain ⟨a,cap,rfl,hc,hn,hi⟩:=h;cases a with
 | none =>
  obtain ⟨rfl,rfl⟩:=hn rfl;exact .inl ⟨rfl,rfl,rfl⟩
 | some ad =>
  refine .inr ⟨ad,cap,rfl,by simp,λj u hj => ?_,one_ints _ _⟩;have hlt:j<l.length:=by
   rcases Nat.lt_or_ge j l.length with q | q
   · exact q
   · rw [List.getElem?_eq_none (by simp;omega)] at hj;cases hj
  obtain ⟨g,off,e,_,h0⟩:=hi j hlt;obtain rfl:ad=⟨g,off,none⟩:=by simpa using e
  rw [addr_add,h0];simpa [hlt] using hj
theorem row_bytesJ {w:World} {base:Nat} {v:Value} {l:List Int} (h:w.ownsRow base 5 1 v l.length (l.map (Value.int .u8))) :∃a cap,v = .slice a l.length cap/\BytesAt w.heap.size w (.slice a l.length cap) l:=by
 rcases h.2 with ⟨rfl,h0⟩ | ⟨g,cap,cur,rfl,hb,hg,hc,hm,hs,ht⟩
 · obtain rfl:l=[]:=List.length_eq_zero_iff.1 h0;exact ⟨none,0,rfl,.inl ⟨none,0,rfl,rfl⟩⟩
 · refine ⟨_,cap,rfl,.inr ⟨g,0,cap,rfl,hc,(Array.getElem?_eq_some_iff.1 hg).1,λj hj => ?_⟩⟩;have:=h.cells (g:=g) rfl j (.int .u8 l[j]) (by simp [hj]);rw [add_lit'] at this;rw [this,List.getElem?_eq_getElem hj];rfl
theorem infoByteJ:(Tryz.prog.info? 5).map (λi=>(i.zero,i.size,i.bytes))=some (some (.int .u8 0),1,1):=by kernel_rfl
theorem TxtB.bytesJ {w:World} {v:Value} {l:List Int} (h:TxtB w v l) :∃a cap,v = .slice a l.length cap:=by
 obtain ⟨a,cap,rfl,_⟩:=h;exact ⟨a,cap,rfl⟩
theorem progT_len {st:Sts} {rl:List Rl} (h:FewOk st rl):(progT (st.map setL) rl).length<=31500000000:=by
 have hS:∀s∈st.map setL,s.length<=69900:=λs hs=>by
  obtain ⟨l,hl,rfl⟩:=List.mem_map.1 hs;have h5:=h.2.2.1 l hl;have h6:=setL_len l;omega
 have key:∀l:List Rl,(∀x∈l,x∈rl)->(progT (st.map setL) l).length<=l.length*450000000:=by
  intro l
  induction l with
  | nil=>intro _;simp [progT]
  | cons x l ih =>
   intro hx;rw [progT_cons,List.length_append,List.length_cons];have a:=rlT_len x.b (txN 120 (st.map setL) x.l) (txN 120 (st.map setL) x.r);have b:=txN_len hS 120 x.l;have c:=txN_len hS 120 x.r;obtain ⟨⟨_,d⟩,_,e⟩:=h.2.2.2 x (hx x (by simp));have f:=ih (λy hy=>hx y (by simp [hy]));omega
 have h1:=key rl (λx hx=>hx);have h2:=h.2.1;omega
theorem joined_at {p q:List Rl} {g:Int->Int} {j:Nat} (h:j<p.length) (h2:j<(p++q.map (mvR g)).length):(p++q.map (mvR g))[j]=p[j]:=List.getElem_append_left h
theorem joined_b {p q:List Rl} {g:Int->Int} {i:Nat} (h:i<q.length) (h2:p.length+i<(p++q.map (mvR g)).length):((p++q.map (mvR g))[p.length+i]).b=q[i].b:=by
 rw [List.getElem_append_right (by omega)];simp [mvR]
theorem syntaxJoins_any (za:List Int) (hba:Byt za) (aa:Option Addr) (ca:Nat) (zb:List Int) (hbb:Byt zb) (ab:Option Addr) (cb:Nat) (w:World) (hsv:SynV w) (hIa:BytesAt w.heap.size w (.slice aa za.length ca) za) (hIb:BytesAt w.heap.size w (.slice ab zb.length cb) zb) :
 Calls Tryz.prog 7 #[.slice aa za.length ca,.slice ab zb.length cb] w λe w'=>e = .returned (.bool true)/\Below w.heap.size w w':=by
 have haw:=awake8_any w hsv;by_cases hz:600<za.length
 · have hz':decide (600<(za.length:Int))=true:=by simp;omega
   go_enter Tryz.func7,Tryz.ntmps7
   go_wp2_with fail
   refine haw.mono ?_;rintro e w1 ⟨rfl,hB1⟩;go_wp2;go_ret;exact ⟨rfl,hB1⟩
 by_cases hy:600<zb.length
 · have hz':decide (600<(za.length:Int))=false:=by simp;omega
   have hy':decide (600<(zb.length:Int))=true:=by simp;omega
   go_enter Tryz.func7,Tryz.ntmps7
   go_wp2_with fail
   refine haw.mono ?_;rintro e w1 ⟨rfl,hB1⟩;go_wp2;go_ret;exact ⟨rfl,hB1⟩
 have hz':decide (600<(za.length:Int))=false:=by simp;omega
 have hy':decide (600<(zb.length:Int))=false:=by simp;omega
 obtain ⟨us,hus⟩:=Run.exists za za.length 0 (by omega) (Nat.zero_le _);obtain ⟨vs,hvs⟩:=Run.exists zb zb.length 0 (by omega) (Nat.zero_le _);have HUS:Hid (Run za 0 us za.length):=hus;have HVS:Hid (Run zb 0 vs zb.length):=hvs;have HIA:Hid (BytesAt w.heap.size w (.slice aa za.length ca) za):=hIa;have HIB:Hid (BytesAt w.heap.size w (.slice ab zb.length cb) zb):=hIb;have HSV:Hid (SynV w):=hsv;have hzl:za.length<=600:=by omega
 have hyl:zb.length<=600:=by omega
 clear hus hvs hIa hIb hz hy hsv;go_enter Tryz.func7,Tryz.ntmps7
 go_wp2_with fail
 refine haw.mono ?_;rintro e w1 ⟨rfl,hB1⟩;have HB01:Hid (Below w.heap.size w w1):=hB1;have hpa:=rparse_any8 za hba (by omega) us HUS.out aa ca w1 ((HIA.out.below hB1).mono hB1.size);obtain ⟨qa,hqa⟩ :∃q,q=parseL (toksL za.length us):=⟨_,rfl⟩;rw [<- hqa] at hpa;have HQA:Hid (qa=parseL (toksL za.length us)):=hqa;obtain ⟨qb,hqb⟩ :∃q,q=parseL (toksL zb.length vs):=⟨_,rfl⟩;have HQB:Hid (qb=parseL (toksL zb.length vs)):=hqb;have HPB:Hid (∀W,Below w.heap.size w W->Calls Tryz.prog 10 #[.slice ab zb.length cb] W λe w'=>PaA W qb e w'):=λW hW=>by
  have:=rparse_any8 zb hbb (by omega) vs HVS.out ab cb W ((HIB.out.below hW).mono hW.size);rw [<- hqb] at this;exact this
 clear haw hB1 hqa hqb
 go_wp2_with fail
 refine hpa.mono ?_;clear hpa;rintro e w2 ⟨hB2,(⟨a,x,hqe,hx,rfl⟩ | ⟨rs,P,sv,rv,hqe,rfl,hpg⟩)⟩
 · have hx':(x != 0)=true:=by simpa using hx
   have HB02:Hid (Below w.heap.size w (w2.alloc (.cells #[.slice none 0 0,.slice none 0 0] 27))):=below_after (below_after HB01.out hB2) (below_alloc _ _);have hpb:=HPB.out _ HB02.out;clear hqe hx hB2
   go_wp2_with fail
   refine hpb.mono ?_;clear hpb;rintro e w3 ⟨hB3,(⟨a',x',hqe,hx2,rfl⟩ | ⟨rs,st,sv,rv,hqe,rfl,hpg⟩)⟩
   · have HB03:Hid (Below w.heap.size w (w3.alloc (.cells #[.slice none 0 0,.slice none 0 0] 27))):=below_after (below_after HB02.out hB3) (below_alloc _ _);clear hqe hB3 hx2;go_wp2;go_ret;exact ⟨rfl,HB03.out⟩
   · obtain ⟨sa,sc,rfl,_⟩:=hpg.sets;obtain ⟨ra,rc,rfl,_⟩:=hpg.rules;have HB03:Hid (∀W,Below w3.heap.size w3 W->Below w.heap.size w W):=λW h=>below_after (below_after HB02.out hB3) h;clear hqe hB3 hpg;go_wp2;go_ret;exact ⟨rfl,HB03.out _ (below_alloc _ _)⟩
 · have HSP:Hid (SetSrc w2 sv P):=hpg.src;have hr0:=hpg.rules;have h60:P.length<=60:=hpg.2.2.2.1;have h64:(rs.map Prod.fst).length<=64:=by rw [List.length_map];exact hpg.2.2.2.2
   obtain ⟨p,hp⟩ :∃x,x=rs.map Prod.fst:=⟨_,rfl⟩;rw [<- hp] at hr0 hqe h64;have HRP:Hid (RulIn w2 rv p):=hr0;have HFP:Hid (FewOk P p/\rightB P p=true):=parseL_few HUS.out (by omega) (HQA.out.symm.trans hqe);have HWP:Hid (∀x∈p,WdR x):=parseL_wd HUS.out (by omega) (HQA.out.symm.trans hqe);obtain ⟨sa,sc,hs0,-⟩:=HSP.out;obtain ⟨ra,rc,hs1,-⟩:=HRP.out;obtain ⟨ns,hns⟩ :∃x,x=P.length:=⟨_,rfl⟩;obtain ⟨nr,hnr⟩ :∃x,x=p.length:=⟨_,rfl⟩;rw [<- hns] at hs0 h60;rw [<- hnr] at hs1 h64;subst hs0 hs1;have HNP:Hid (ns=P.length/\nr=p.length):=⟨hns,hnr⟩;clear hpg hr0 hqe hp hns hnr;have hP60:ns<=60:=h60;have hP64:nr<=64:=h64;clear h60 h64;have HB02:Hid (Below w.heap.size w (w2.alloc (.cells #[.slice sa ns sc,.slice ra nr rc] 27))):=below_after (below_after HB01.out hB2) (below_alloc _ _);have HE2:Hid ((w2.alloc (.cells #[.slice sa ns sc,.slice ra nr rc] 27)).heap[w2.heap.size]? = some (.cells #[.slice sa ns sc,.slice ra nr rc] 27 (0,0))):=heap_new' w2 _;have hpb:=HPB.out _ HB02.out;clear hB2
   go_wp2_with fail
   refine hpb.mono ?_;clear hpb;rintro e w3 ⟨hB3,(⟨a',x',hqe,hx2,rfl⟩ | ⟨rt,Q,tv,uv,hqe,rfl,hpg⟩)⟩
   · have hx':(x' != 0)=true:=by simpa using hx2
     have HB03:Hid (Below w.heap.size w (w3.alloc (.cells #[.slice none 0 0,.slice none 0 0] 27))):=below_after (below_after HB02.out hB3) (below_alloc _ _);clear hqe hB3 hx2;go_wp2;go_ret;exact ⟨rfl,HB03.out⟩
   · have HSQ:Hid (SetSrc w3 tv Q):=hpg.src;have hr0:=hpg.rules;have h60:Q.length<=60:=hpg.2.2.2.1;have h64:(rt.map Prod.fst).length<=64:=by rw [List.length_map];exact hpg.2.2.2.2
     obtain ⟨q,hq⟩ :∃x,x=rt.map Prod.fst:=⟨_,rfl⟩;rw [<- hq] at hr0 hqe h64;have HRQ:Hid (RulIn w3 uv q):=hr0;have HFQ:Hid (FewOk Q q/\rightB Q q=true):=parseL_few HVS.out (by omega) (HQB.out.symm.trans hqe);have HWQ:Hid (∀x∈q,WdR x):=parseL_wd HVS.out (by omega) (HQB.out.symm.trans hqe);obtain ⟨ta,tc,hs0,-⟩:=HSQ.out;obtain ⟨ua,uc,hs1,-⟩:=HRQ.out;obtain ⟨ms,hms⟩ :∃x,x=Q.length:=⟨_,rfl⟩;obtain ⟨mr,hmr⟩ :∃x,x=q.length:=⟨_,rfl⟩;rw [<- hms] at hs0 h60;rw [<- hmr] at hs1 h64;subst hs0 hs1;have HNQ:Hid (ms=Q.length/\mr=q.length):=⟨hms,hmr⟩;clear hpg hr0 hqe hq hms hmr;have hQ60:ms<=60:=h60;have hQ64:mr<=64:=h64;clear h60 h64;have hB4:=below_alloc w3 (.cells #[.slice ta ms tc,.slice ua mr uc] 27);have HB04:Hid (Below w.heap.size w (w3.alloc (.cells #[.slice ta ms tc,.slice ua mr uc] 27))):=below_after (below_after HB02.out hB3) hB4;have h3:w3.heap[w2.heap.size]? = some (.cells #[.slice sa ns sc,.slice ra nr rc] 27 (0,0)):=(hB3.block _ (by simp)).trans HE2.out;have hlt3:w2.heap.size<w3.heap.size:=(Array.getElem?_eq_some_iff.1 h3).1;have d0:w3.cell? ⟨w2.heap.size,0,none⟩=some (.slice sa ns sc):=cell_of_row _ _ 0 _ _ _ h3;have d1:w3.cell? ⟨w2.heap.size,1,none⟩=some (.slice ra nr rc):=cell_of_row _ _ 1 _ _ _ h3;have HE41:Hid ((w3.alloc (.cells #[.slice ta ms tc,.slice ua mr uc] 27)).heap[w2.heap.size]? = some (.cells #[.slice sa ns sc,.slice ra nr rc] 27 (0,0))):=(hB4.block _ hlt3).trans h3;have HE42:Hid ((w3.alloc (.cells #[.slice ta ms tc,.slice ua mr uc] 27)).heap[w3.heap.size]? = some (.cells #[.slice ta ms tc,.slice ua mr uc] 27 (0,0))):=heap_new' w3 _;have HSP4:Hid (SetSrc (w3.alloc (.cells #[.slice ta ms tc,.slice ua mr uc] 27)) (.slice sa ns sc) P):=HSP.out.below (below_after ((below_alloc w2 _)) (below_after hB3 hB4));have HRP4:Hid (RulIn (w3.alloc (.cells #[.slice ta ms tc,.slice ua mr uc] 27)) (.slice ra nr rc) p):=HRP.out.below (below_after ((below_alloc w2 _)) (below_after hB3 hB4));have HSQ4:Hid (SetSrc (w3.alloc (.cells #[.slice ta ms tc,.slice ua mr uc] 27)) (.slice ta ms tc) Q):=HSQ.out.below hB4;have HRQ4:Hid (RulIn (w3.alloc (.cells #[.slice ta ms tc,.slice ua mr uc] 27)) (.slice ua mr uc) q):=HRQ.out.below hB4;clear hB3 hB4 h3 HSP HRP HSQ HRQ HPB;by_cases c64:64<nr+mr
     · have c64':decide (64<(nr:Int)+(mr:Int))=true:=by simp;omega
       go_wp2;go_ret;exact ⟨rfl,HB04.out⟩
     have c64':decide (64<(nr:Int)+(mr:Int))=false:=by simp;omega
     by_cases c60:60<ns+ms
     · have c60':decide (60<(ns:Int)+(ms:Int))=true:=by simp;omega
       go_wp2;go_ret;exact ⟨rfl,HB04.out⟩
     have c60':decide (60<(ns:Int)+(ms:Int))=false:=by simp;omega
     have hpr:=rprint_any8 P p HFP.out.1 (.slice sa ns sc) (.slice ra nr rc) (w3.alloc (.cells #[.slice ta ms tc,.slice ua mr uc] 27)) HSP4.out HRP4.out
     go_wp2_with fail
     refine hpr.mono ?_;clear hpr d0 d1;rintro e w4 ⟨hB4,(⟨hq,_⟩ | ⟨_,xv,rfl,htx⟩)⟩
     · rw [HFP.out.2] at hq;cases hq
     obtain ⟨zx,hzx⟩ :∃x,x=progT (P.map setL) p:=⟨_,rfl⟩;rw [<- hzx] at htx;have HZX:Hid (zx=progT (P.map setL) p):=hzx;have hlx:zx.length<=31500000000:=by rw [hzx];exact progT_len HFP.out.1
     have HTX:Hid (TxtB w4 xv zx):=htx;obtain ⟨za',zc',hxv⟩:=htx.bytesJ;obtain ⟨nx,hnx⟩ :∃x,x=zx.length:=⟨_,rfl⟩;rw [<- hnx] at hxv hlx;subst hxv;have HNX:Hid (nx=zx.length):=hnx;have HB05:Hid (Below w.heap.size w w4):=below_after HB04.out hB4;have h41:w4.heap[w2.heap.size]? = some (.cells #[.slice sa ns sc,.slice ra nr rc] 27 (0,0)):=(hB4.block _ (by simp;omega)).trans HE41.out;have h42:w4.heap[w3.heap.size]? = some (.cells #[.slice ta ms tc,.slice ua mr uc] 27 (0,0)):=(hB4.block _ (by simp)).trans HE42.out;have hl1:w2.heap.size<w4.heap.size:=(Array.getElem?_eq_some_iff.1 h41).1;have hl2:w3.heap.size<w4.heap.size:=(Array.getElem?_eq_some_iff.1 h42).1;have d0:w4.cell? ⟨w3.heap.size,0,none⟩=some (.slice ta ms tc):=cell_of_row _ _ 0 _ _ _ h42;have d1:w4.cell? ⟨w3.heap.size,1,none⟩=some (.slice ua mr uc):=cell_of_row _ _ 1 _ _ _ h42;have HE51:Hid (w4.heap[w2.heap.size]? = some (.cells #[.slice sa ns sc,.slice ra nr rc] 27 (0,0))):=h41;have HE52:Hid (w4.heap[w3.heap.size]? = some (.cells #[.slice ta ms tc,.slice ua mr uc] 27 (0,0))):=h42;have HSQ5:Hid (SetSrc w4 (.slice ta ms tc) Q):=HSQ4.out.below hB4;have HRQ5:Hid (RulIn w4 (.slice ua mr uc) q):=HRQ4.out.below hB4;have HRP5:Hid (RulIn w4 (.slice ra nr rc) p):=HRP4.out.below hB4;clear htx hzx hnx hB4 h41 h42 HE41 HE42 HSP4 HRP4 HSQ4 HRQ4;have hpr:=rprint_any8 Q q HFQ.out.1 (.slice ta ms tc) (.slice ua mr uc) w4 HSQ5.out HRQ5.out
     go_wp2_with fail
     refine hpr.mono ?_;clear hpr d0 d1;rintro e w5 ⟨hB5,(⟨hq,_⟩ | ⟨_,yv,rfl,hty⟩)⟩
     · rw [HFQ.out.2] at hq;cases hq
     obtain ⟨zy,hzy⟩ :∃x,x=progT (Q.map setL) q:=⟨_,rfl⟩;rw [<- hzy] at hty;have HZY:Hid (zy=progT (Q.map setL) q):=hzy;have hly:zy.length<=31500000000:=by rw [hzy];exact progT_len HFQ.out.1
     have HTY:Hid (TxtB w5 yv zy):=hty;obtain ⟨ya',yc',hyv⟩:=hty.bytesJ;obtain ⟨ny,hny⟩ :∃x,x=zy.length:=⟨_,rfl⟩;rw [<- hny] at hyv hly;subst hyv;have HNY:Hid (ny=zy.length):=hny;have HB06:Hid (Below w.heap.size w w5):=below_after HB05.out hB5;have HE61:Hid (w5.heap[w2.heap.size]? = some (.cells #[.slice sa ns sc,.slice ra nr rc] 27 (0,0))):=(hB5.block _ hl1).trans HE51.out;have HE62:Hid (w5.heap[w3.heap.size]? = some (.cells #[.slice ta ms tc,.slice ua mr uc] 27 (0,0))):=(hB5.block _ hl2).trans HE52.out;have HTX5:Hid (TxtB w5 (.slice za' nx zc') zx):=HTX.out.below hB5;have HRQ6:Hid (RulIn w5 (.slice ua mr uc) q):=HRQ5.out.below hB5;have HRP6:Hid (RulIn w5 (.slice ra nr rc) p):=HRP5.out.below hB5;clear hty hzy hny hB5 hl1 hl2 HE51 HE52 HSQ5 HRQ5 HRP5 HTX HB05 HB04 HB02 HE2;by_cases cl:60000<nx+ny
     · have cl':decide (60000<(nx:Int)+(ny:Int))=true:=by simp;omega
       go_wp2;go_ret;exact ⟨rfl,HB06.out⟩
     have cl':decide (60000<(nx:Int)+(ny:Int))=false:=by simp;omega
     obtain ⟨iB,hiB,hzB0,hzB1,hzB2⟩:=info_parts infoByteJ;have HO0:Hid ((w5.alloc (.cells #[] 5)).ownsRow w5.heap.size 5 1 (.slice (some ⟨w5.heap.size,0,none⟩) 0 0) 0 []):=owns_empty w5 w5.heap.size 5 1 (Nat.le_refl _);have HSX:Hid (SrcIs (w5.alloc (.cells #[] 5)) (.slice za' nx zc') nx 1 (zx.map (Value.int .u8))):=by
      have:=HTX5.out.src.below (below_alloc w5 (.cells #[] 5));rw [<- HNX.out] at this;exact this
     have HSY:Hid (∀W,Below w5.heap.size w5 W->SrcIs W (.slice ya' ny yc') ny 1 (zy.map (Value.int .u8))):=λW hW=>by
      have:=HTY.out.src.below hW;rw [<- HNY.out] at this;exact this
     clear HTX5 HTY
     go_wp2_with (first
      | (at_builtin;refine wpList_append_src _ rfl (.tmp 93) (.tmp 94) 22 rfl w5.heap.size 5 iB (.int .u8 0) 1 1 Tryz.underlying22 hiB hzB0 hzB1 hzB2 rfl (by decide) _ _ _ rfl HO0.out _ rfl nx _ HSX.out (by unfold maxLen;omega) (by omega) (by simp) ?_;intro v6 w6 ho6 hg6;have hB6:Below w5.heap.size w5 w6:=((Below.refl _ _).alloc (Nat.le_refl _) _).grown hg6 (by simp) (λj e=>(World.ownsRow.lt HO0.out j e).1);have hs6:=hB6.size;have HO1:Hid (w6.ownsRow w5.heap.size 5 1 v6 (0+nx) ([]++zx.map (Value.int .u8))):=ho6;have HSY6:Hid (SrcIs w6 (.slice ya' ny yc') ny 1 (zy.map (Value.int .u8))):=HSY.out w6 hB6;clear ho6 hg6)
      | (at_builtin;refine wpList_append_src _ rfl (.tmp 95) (.tmp 96) 22 rfl w5.heap.size 5 iB (.int .u8 0) 1 1 Tryz.underlying22 hiB hzB0 hzB1 hzB2 rfl (by decide) _ _ _ rfl HO1.out _ rfl ny _ HSY6.out (by unfold maxLen;omega) (by omega) (by omega) ?_;intro v7 w7 ho7 hg7))
     have hB7:Below w5.heap.size w5 w7:=hB6.grown (show w6.grownBy w7 v6.ownBlock from hg7) (by omega) (λj e=>(World.ownsRow.lt HO1.out j e).1);have HB07:Hid (Below w.heap.size w w7):=below_after HB06.out hB7;obtain ⟨zz,hzz⟩ :∃x,x=zx++zy:=⟨_,rfl⟩;have hnz:zz.length=nx+ny:=by rw [hzz,List.length_append,<- HNX.out,<- HNY.out]
     have hO7:w7.ownsRow w5.heap.size 5 1 v7 zz.length (zz.map (Value.int .u8)):=by
      have:w7.ownsRow w5.heap.size 5 1 v7 (0+nx+ny) ([]++zx.map (Value.int .u8)++zy.map (Value.int .u8)):=ho7;rw [hnz,hzz];simpa using this
     obtain ⟨a7,c7,hv7,hI7⟩:=row_bytesJ hO7;subst hv7;have HRJ:Hid _:=right_join HFP.out.2 HFQ.out.2 (λx hx=>⟨(HFP.out.1.2.2.2 x hx).1.1,(HFP.out.1.2.2.2 x hx).2.1⟩) (λx hx=>⟨(HFQ.out.1.2.2.2 x hx).1.1,(HFQ.out.1.2.2.2 x hx).2.1⟩) (by rw [<- HNP.out.2,<- HNQ.out.2];omega) (by rw [<- HNP.out.1,<- HNQ.out.1];omega);have HA:Hid (∀c∈zz,0<=c/\c<128):=by
      rw [hzz,HZX.out,HZY.out,<- HRJ.out.2.1];exact progT_asc
     have HPZ:Hid (parseL (toksL zz.length (ascU 0 zz)) = .inr (p++q.map (mvR (rnS P Q)),jnS P Q)):=by
      show _=_;rw [hzz,HZX.out,HZY.out,<- HRJ.out.2.1];exact back_parse HRJ.out.1 HRJ.out.2.2 _
     have hpz:=parse_any8 zz (λc hc=>by have:=HA.out c hc;omega) (by omega) (ascU 0 zz) (run_ascii HA.out) a7 c7 w7 (HSV.out.grown (grownR_below HB07.out none) (by simp)) hI7;rw [HPZ.out] at hpz;clear hI7 hO7 ho7 hg7 hzz hnz HO0 HO1 HSX HSY HSY6 hB6 hs6 HB06 hiB hzB0 hzB1 hzB2;refine hpz.mono ?_;clear hpz;rintro e w8 ⟨hB8,(⟨_,_,hqe,_⟩ | ⟨rx,J,xv,yv,hqe,rfl,hpg⟩)⟩
     · cases hqe
     obtain ⟨e1,e2⟩:=Prod.mk.inj (Sum.inr.inj hqe);subst e2;obtain ⟨rr,hrr⟩ :∃x,x=p++q.map (mvR (rnS P Q)):=⟨_,rfl⟩;have HRR:Hid (rr=p++q.map (mvR (rnS P Q))):=hrr;have hr8:RulIn w8 yv rr:=by rw [hrr,e1];exact hpg.rules
     obtain ⟨xa,xc,hxv,-⟩:=hpg.sets;have hr8':=hr8;obtain ⟨ya,yc,hyv,-⟩:=hr8';obtain ⟨xs,hxs⟩ :∃x,x=(jnS P Q).length:=⟨_,rfl⟩;obtain ⟨yr,hyr⟩ :∃x,x=rr.length:=⟨_,rfl⟩;have hxs2:xs<=ns+ms:=by rw [hxs,HNP.out.1,HNQ.out.1];exact jn_le P Q
     have hyr2:yr=nr+mr:=by rw [hyr,hrr,List.length_append,List.length_map,<- HNP.out.2,<- HNQ.out.2]
     rw [<- hxs] at hxv;rw [<- hyr] at hyv;subst hxv hyv;have HYR:Hid (yr=rr.length):=hyr;have HY2:Hid (yr=nr+mr):=hyr2;have hy128:yr<=128:=by omega
     have hB58:Below w5.heap.size w5 w8:=below_after hB7 hB8;have hB9:=below_alloc w8 (.cells #[.slice xa xs xc,.slice ya yr yc] 27);have hl51:w2.heap.size<w5.heap.size:=(Array.getElem?_eq_some_iff.1 HE61.out).1;have hl52:w3.heap.size<w5.heap.size:=(Array.getElem?_eq_some_iff.1 HE62.out).1;have h81:w8.heap[w2.heap.size]? = some (.cells #[.slice sa ns sc,.slice ra nr rc] 27 (0,0)):=(hB58.block _ hl51).trans HE61.out;have h82:w8.heap[w3.heap.size]? = some (.cells #[.slice ta ms tc,.slice ua mr uc] 27 (0,0)):=(hB58.block _ hl52).trans HE62.out;have hl1:w2.heap.size<w8.heap.size:=(Array.getElem?_eq_some_iff.1 h81).1;have hl2:w3.heap.size<w8.heap.size:=(Array.getElem?_eq_some_iff.1 h82).1;have d1:w8.cell? ⟨w2.heap.size,1,none⟩=some (.slice ra nr rc):=cell_of_row _ _ 1 _ _ _ h81;have e1':w8.cell? ⟨w3.heap.size,1,none⟩=some (.slice ua mr uc):=cell_of_row _ _ 1 _ _ _ h82;have HE91:Hid ((w8.alloc (.cells #[.slice xa xs xc,.slice ya yr yc] 27)).heap[w2.heap.size]? = some (.cells #[.slice sa ns sc,.slice ra nr rc] 27 (0,0))):=(hB9.block _ hl1).trans h81;have HE92:Hid ((w8.alloc (.cells #[.slice xa xs xc,.slice ya yr yc] 27)).heap[w3.heap.size]? = some (.cells #[.slice ta ms tc,.slice ua mr uc] 27 (0,0))):=(hB9.block _ hl2).trans h82;have HE93:Hid ((w8.alloc (.cells #[.slice xa xs xc,.slice ya yr yc] 27)).heap[w8.heap.size]? = some (.cells #[.slice xa xs xc,.slice ya yr yc] 27 (0,0))):=heap_new' w8 _;have HB09:Hid (Below w.heap.size w (w8.alloc (.cells #[.slice xa xs xc,.slice ya yr yc] 27))):=below_after (below_after HB07.out hB8) hB9;have HRP9:Hid (RulIn (w8.alloc (.cells #[.slice xa xs xc,.slice ya yr yc] 27)) (.slice ra nr rc) p):=HRP6.out.below (below_after hB58 hB9);have HRQ9:Hid (RulIn (w8.alloc (.cells #[.slice xa xs xc,.slice ya yr yc] 27)) (.slice ua mr uc) q):=HRQ6.out.below (below_after hB58 hB9);have HRR9:Hid (RulIn (w8.alloc (.cells #[.slice xa xs xc,.slice ya yr yc] 27)) (.slice ya yr yc) rr):=hr8.below hB9;have hne:((yr:Int) != (nr:Int)+(mr:Int))=false:=by simp;omega
     clear hqe hpg e1 hr8 hxs hyr hyr2 hrr hB58 hB9 hl51 hl52 h81 h82 hB7 hB8 HE61 HE62 HRP6 HRQ6 HB07 HRJ HA HPZ HZX HZY HNX HNY;go_wp2;clear d1 e1' hne
     go_loopw [19] (λx wr=>∃(j:Nat),j<=nr/\x = .int .i64 (j:Int)/\wr.heap[w2.heap.size]? = some (.cells #[.slice sa ns sc,.slice ra nr rc] 27 (0,0))/\wr.heap[w3.heap.size]? = some (.cells #[.slice ta ms tc,.slice ua mr uc] 27 (0,0))/\wr.heap[w8.heap.size]? = some (.cells #[.slice xa xs xc,.slice ya yr yc] 27 (0,0))/\Below (w8.alloc (.cells #[.slice xa xs xc,.slice ya yr yc] 27)).heap.size (w8.alloc (.cells #[.slice xa xs xc,.slice ya yr yc] 27)) wr) (λx _=>nr-(intOf x).toNat)
     case atStart=>exact ⟨0,Nat.zero_le _,rfl,HE91.out,HE92.out,HE93.out,Below.refl _ _⟩
     case round =>
      obtain ⟨j,hj,rfl,hE1,hE2,hE3,hB⟩:=hrel;have hlt1:w2.heap.size<wr.heap.size:=(Array.getElem?_eq_some_iff.1 hE1).1;have hlt3:w8.heap.size<wr.heap.size:=(Array.getElem?_eq_some_iff.1 hE3).1;have a1:wr.cell? ⟨w8.heap.size,1,none⟩=some (.slice ya yr yc):=cell_of_row _ _ 1 _ _ _ hE3;have b1:wr.cell? ⟨w2.heap.size,1,none⟩=some (.slice ra nr rc):=cell_of_row _ _ 1 _ _ _ hE1;have HE1':Hid (wr.heap[w2.heap.size]? = some (.cells #[.slice sa ns sc,.slice ra nr rc] 27 (0,0))):=hE1;have HE2':Hid (wr.heap[w3.heap.size]? = some (.cells #[.slice ta ms tc,.slice ua mr uc] 27 (0,0))):=hE2;have HE3':Hid (wr.heap[w8.heap.size]? = some (.cells #[.slice xa xs xc,.slice ya yr yc] 27 (0,0))):=hE3;have HBW:Hid (Below (w8.alloc (.cells #[.slice xa xs xc,.slice ya yr yc] 27)).heap.size (w8.alloc (.cells #[.slice xa xs xc,.slice ya yr yc] 27)) wr):=hB;clear hE1 hE2 hE3 hB;by_cases hjl:j<nr
      · obtain ⟨ga,oa,gb,ob,lk,ls,la,ln,lca,lb,lcb,rk,rs1,ra1,rn,rca,rb,rcb,rfl,rfl,hga,hgb,⟨l0,l1,l2,m0,m1,m2⟩,⟨r0,r1,r2,s0,s1,s2⟩,hcl,hcr⟩ :∃(ga oa gb ob:Nat) (lk ls:Int) (la:Option Addr) (ln lca:Nat) (lb:Option Addr) (lcb:Nat) (rk rs:Int) (ra':Option Addr) (rn rca:Nat) (rb:Option Addr) (rcb:Nat),ya=some ⟨ga,oa,none⟩/\ra=some ⟨gb,ob,none⟩/\ga<wr.heap.size/\gb<wr.heap.size/\(wr.cell? ⟨ga,oa+j*7+1,none⟩=some (.int .i64 lk)/\wr.cell? ⟨ga,oa+j*7+2,none⟩=some (.int .i64 ls)/\wr.cell? ⟨ga,oa+j*7+3,none⟩=some (.slice la ln lca)/\wr.cell? ⟨gb,ob+j*7+1,none⟩=some (.int .i64 lk)/\wr.cell? ⟨gb,ob+j*7+2,none⟩=some (.int .i64 ls)/\wr.cell? ⟨gb,ob+j*7+3,none⟩=some (.slice lb ln lcb))/\(wr.cell? ⟨ga,oa+j*7+4,none⟩=some (.int .i64 rk)/\wr.cell? ⟨ga,oa+j*7+5,none⟩=some (.int .i64 rs)/\wr.cell? ⟨ga,oa+j*7+6,none⟩=some (.slice ra' rn rca)/\wr.cell? ⟨gb,ob+j*7+4,none⟩=some (.int .i64 rk)/\wr.cell? ⟨gb,ob+j*7+5,none⟩=some (.int .i64 rs)/\wr.cell? ⟨gb,ob+j*7+6,none⟩=some (.slice rb rn rcb))/\(∀W,Below wr.heap.size wr W->Calls Tryz.prog 17 #[.agg #[.int .i64 lk,.int .i64 ls,.slice la ln lca],.agg #[.int .i64 lk,.int .i64 ls,.slice lb ln lcb]] W λe w''=>e = .returned (.bool true)/\Below W.heap.size W w'')/\(∀W,Below wr.heap.size wr W->Calls Tryz.prog 17 #[.agg #[.int .i64 rk,.int .i64 rs,.slice ra' rn rca],.agg #[.int .i64 rk,.int .i64 rs,.slice rb rn rcb]] W λe w''=>e = .returned (.bool true)/\Below W.heap.size W w''):=by
         obtain ⟨a,ca',e1,_,hi⟩:=HRR9.out.below HBW.out;obtain ⟨b,cb',e2,_,hi'⟩:=HRP9.out.below HBW.out;have hjp:j<p.length:=by have:=HNP.out.2;omega
         have hjr:j<rr.length:=by have:=HYR.out;have:=HY2.out;omega
         have eg:rr[j]=p[j]:=by
          have:=HRR.out;subst this;exact joined_at hjp hjr
         obtain ⟨ga,oa,zl,zr,rfl,hga,c0,c1,c2,c3,c4,c5,c6,c7,c8⟩:=hi j hjr;obtain ⟨gb,ob,yl,yr',rfl,hgb,d0,d1,d2,d3,d4,d5,d6,d7,d8⟩:=hi' j hjp;rw [eg] at c1 c2 c4 c5 c7 c8;obtain ⟨x1,x2,rfl,_⟩:=c7.slice;obtain ⟨x3,x4,rfl,_⟩:=c8.slice;obtain ⟨x5,x6,rfl,_⟩:=d7.slice;obtain ⟨x7,x8,rfl,_⟩:=d8.slice;have hw:=HWP.out _ (List.getElem_mem hjp);have e1':ya=some ⟨ga,oa,none⟩:=by simp at e1;exact e1.1
         have e2':ra=some ⟨gb,ob,none⟩:=by simp at e2;exact e2.1
         have hq:∀W,Below wr.heap.size wr W->∀k,k<wr.heap.size->W.heap[k]? = wr.heap[k]? /\ k<W.heap.size:=λW hW k hk=>⟨hW.block k hk,Nat.lt_of_lt_of_le hk hW.size⟩;exact ⟨ga,oa,gb,ob,_,_,x1,_,x2,x5,x6,_,_,x3,_,x4,x7,x8,e1',e2',hga,hgb,⟨c1,c2,c3,d1,d2,d3⟩,⟨c4,c5,c6,d4,d5,d6⟩,λW hW=>sameNode_of (n:=p[j].l) (c7.to (hq W hW)) (d7.to (hq W hW)) hw.1,λW hW=>sameNode_of (n:=p[j].r) (c8.to (hq W hW)) (d8.to (hq W hW)) hw.2⟩
        have hj0:(0:Int)<=(j:Int):=by omega
        have hj1:(j:Int)<(nr:Int):=by omega
        have hj2:(j:Int)<(yr:Int):=by have:=HY2.out;omega
        have hjy:j<yr:=by have:=HY2.out;omega
        have HCL:Hid (∀W,Below wr.heap.size wr W->Calls Tryz.prog 17 #[.agg #[.int .i64 lk,.int .i64 ls,.slice la ln lca],.agg #[.int .i64 lk,.int .i64 ls,.slice lb ln lcb]] W λe w''=>e = .returned (.bool true)/\Below W.heap.size W w''):=hcl;have HCR:Hid (∀W,Below wr.heap.size wr W->Calls Tryz.prog 17 #[.agg #[.int .i64 rk,.int .i64 rs1,.slice ra1 rn rca],.agg #[.int .i64 rk,.int .i64 rs1,.slice rb rn rcb]] W λe w''=>e = .returned (.bool true)/\Below W.heap.size W w''):=hcr;have HRC:Hid (∀W,Below wr.heap.size wr W->W.cell? ⟨w8.heap.size,1,none⟩=some (.slice (some ⟨ga,oa,none⟩) yr yc)/\W.cell? ⟨w2.heap.size,1,none⟩=some (.slice (some ⟨gb,ob,none⟩) nr rc)/\W.cell? ⟨ga,oa+j*7+4,none⟩=some (.int .i64 rk)/\W.cell? ⟨ga,oa+j*7+5,none⟩=some (.int .i64 rs1)/\W.cell? ⟨ga,oa+j*7+6,none⟩=some (.slice ra1 rn rca)/\W.cell? ⟨gb,ob+j*7+4,none⟩=some (.int .i64 rk)/\W.cell? ⟨gb,ob+j*7+5,none⟩=some (.int .i64 rs1)/\W.cell? ⟨gb,ob+j*7+6,none⟩=some (.slice rb rn rcb)):=λW hk=>⟨(hk.cell (p:=⟨_,_,none⟩) hlt3).trans a1,(hk.cell (p:=⟨_,_,none⟩) hlt1).trans b1,(hk.cell (p:=⟨ga,_,none⟩) hga).trans r0,(hk.cell (p:=⟨ga,_,none⟩) hga).trans r1,(hk.cell (p:=⟨ga,_,none⟩) hga).trans r2,(hk.cell (p:=⟨gb,_,none⟩) hgb).trans s0,(hk.cell (p:=⟨gb,_,none⟩) hgb).trans s1,(hk.cell (p:=⟨gb,_,none⟩) hgb).trans s2⟩;have HLC:Hid (∀W,Below (wr.drewN 1).heap.size (wr.drewN 1) W->W.cell? ⟨w8.heap.size,1,none⟩=some (.slice (some ⟨ga,oa,none⟩) yr yc)/\W.cell? ⟨w2.heap.size,1,none⟩=some (.slice (some ⟨gb,ob,none⟩) nr rc)/\W.cell? ⟨ga,oa+j*7+1,none⟩=some (.int .i64 lk)/\W.cell? ⟨ga,oa+j*7+2,none⟩=some (.int .i64 ls)/\W.cell? ⟨ga,oa+j*7+3,none⟩=some (.slice la ln lca)/\W.cell? ⟨gb,ob+j*7+1,none⟩=some (.int .i64 lk)/\W.cell? ⟨gb,ob+j*7+2,none⟩=some (.int .i64 ls)/\W.cell? ⟨gb,ob+j*7+3,none⟩=some (.slice lb ln lcb)):=λW hW=>by
         have hk:Below wr.heap.size wr W:=(below_drewN' (Below.refl _ _) 1).trans hW;exact ⟨(hk.cell (p:=⟨_,_,none⟩) hlt3).trans a1,(hk.cell (p:=⟨_,_,none⟩) hlt1).trans b1,(hk.cell (p:=⟨ga,_,none⟩) hga).trans l0,(hk.cell (p:=⟨ga,_,none⟩) hga).trans l1,(hk.cell (p:=⟨ga,_,none⟩) hga).trans l2,(hk.cell (p:=⟨gb,_,none⟩) hgb).trans m0,(hk.cell (p:=⟨gb,_,none⟩) hgb).trans m1,(hk.cell (p:=⟨gb,_,none⟩) hgb).trans m2⟩
        clear hcl hcr r0 r1 r2 s0 s1 s2;go_wp2
        go_region_held3 (λw'=>w'.cell? ⟨w8.heap.size,1,none⟩=some (.slice (some ⟨ga,oa,none⟩) yr yc)/\w'.cell? ⟨w2.heap.size,1,none⟩=some (.slice (some ⟨gb,ob,none⟩) nr rc)/\w'.cell? ⟨ga,oa+j*7+1,none⟩=some (.int .i64 lk)/\w'.cell? ⟨ga,oa+j*7+2,none⟩=some (.int .i64 ls)/\w'.cell? ⟨ga,oa+j*7+3,none⟩=some (.slice la ln lca)/\w'.cell? ⟨gb,ob+j*7+1,none⟩=some (.int .i64 lk)/\w'.cell? ⟨gb,ob+j*7+2,none⟩=some (.int .i64 ls)/\w'.cell? ⟨gb,ob+j*7+3,none⟩=some (.slice lb ln lcb)) (first | go_keep | exact HLC.out _ hB1) ((go_at_call 17;refine (HCL.out _ (by exact below_drewN' (Below.refl _ _) 1)).mono ?_;rintro e w9 ⟨rfl,hB1⟩))
        have hk1:Below wr.heap.size wr w9:=(below_drewN' (Below.refl _ _) 1).trans hB1;obtain ⟨t0,t1,u0,u1,u2,v0,v1,v2⟩:=HRC.out _ hk1;have hs1:=hk1.size;have HRD:Hid (∀W,Below (w9.drewN 1).heap.size (w9.drewN 1) W->W.cell? ⟨w8.heap.size,1,none⟩=some (.slice (some ⟨ga,oa,none⟩) yr yc)/\W.cell? ⟨w2.heap.size,1,none⟩=some (.slice (some ⟨gb,ob,none⟩) nr rc)/\W.cell? ⟨ga,oa+j*7+4,none⟩=some (.int .i64 rk)/\W.cell? ⟨ga,oa+j*7+5,none⟩=some (.int .i64 rs1)/\W.cell? ⟨ga,oa+j*7+6,none⟩=some (.slice ra1 rn rca)/\W.cell? ⟨gb,ob+j*7+4,none⟩=some (.int .i64 rk)/\W.cell? ⟨gb,ob+j*7+5,none⟩=some (.int .i64 rs1)/\W.cell? ⟨gb,ob+j*7+6,none⟩=some (.slice rb rn rcb)):=λW hW=>HRC.out W (below_after hk1 ((below_drewN' (Below.refl _ _) 1).trans hW));have HCR1:Hid (∀W,Below w9.heap.size w9 W->Calls Tryz.prog 17 #[.agg #[.int .i64 rk,.int .i64 rs1,.slice ra1 rn rca],.agg #[.int .i64 rk,.int .i64 rs1,.slice rb rn rcb]] W λe w''=>e = .returned (.bool true)/\Below W.heap.size W w''):=λW hW=>HCR.out W (below_after hk1 hW);have hga1:ga<w9.heap.size:=by omega
        have hgb1:gb<w9.heap.size:=by omega
        have hlt9:w8.heap.size<w9.heap.size:=by omega
        have hlt9':w2.heap.size<w9.heap.size:=by omega
        have HK1:Hid (Below wr.heap.size wr w9):=hk1;clear hB1 hk1 a1 b1 l0 l1 l2 m0 m1 m2 HRC HLC hs1;go_wp2
        go_region_held3 (λw'=>w'.cell? ⟨w8.heap.size,1,none⟩=some (.slice (some ⟨ga,oa,none⟩) yr yc)/\w'.cell? ⟨w2.heap.size,1,none⟩=some (.slice (some ⟨gb,ob,none⟩) nr rc)/\w'.cell? ⟨ga,oa+j*7+4,none⟩=some (.int .i64 rk)/\w'.cell? ⟨ga,oa+j*7+5,none⟩=some (.int .i64 rs1)/\w'.cell? ⟨ga,oa+j*7+6,none⟩=some (.slice ra1 rn rca)/\w'.cell? ⟨gb,ob+j*7+4,none⟩=some (.int .i64 rk)/\w'.cell? ⟨gb,ob+j*7+5,none⟩=some (.int .i64 rs1)/\w'.cell? ⟨gb,ob+j*7+6,none⟩=some (.slice rb rn rcb)) (first | go_keep | exact HRD.out _ hB2) ((go_at_call 17;refine (HCR1.out _ (by exact below_drewN' (Below.refl _ _) 1)).mono ?_;rintro e w10 ⟨rfl,hB2⟩))
        have HK2:Hid (Below wr.heap.size wr w10):=below_after HK1.out ((below_drewN' (Below.refl _ _) 1).trans hB2);clear hB2 t0 t1 u0 u1 u2 v0 v1 v2 hga1 hgb1 hlt9 hlt9' HRD;have hl9:w3.heap.size<wr.heap.size:=(Array.getElem?_eq_some_iff.1 HE2'.out).1;go_wp2
        go_roundw
        case rel=>exact ⟨j+1,by omega,by go_num,(HK2.out.block _ hlt1).trans HE1'.out,(HK2.out.block _ hl9).trans HE2'.out,(HK2.out.block _ hlt3).trans HE3'.out,below_after HBW.out HK2.out⟩
        case measure=>simp [intOf];omega
      · obtain rfl:nr=j:=by omega
        have hlt2:w3.heap.size<wr.heap.size:=(Array.getElem?_eq_some_iff.1 HE2'.out).1;have g1:wr.cell? ⟨w3.heap.size,1,none⟩=some (.slice ua mr uc):=cell_of_row _ _ 1 _ _ _ HE2'.out;have HRPw:Hid (RulIn wr (.slice ra nr rc) p):=HRP9.out.below HBW.out;have HRQw:Hid (RulIn wr (.slice ua mr uc) q):=HRQ9.out.below HBW.out;have HRRw:Hid (RulIn wr (.slice ya yr yc) rr):=HRR9.out.below HBW.out;clear hjl hj HRP9 HRQ9 HRR9;go_wp2
        go_loopw [22] (λx wq=>∃(k:Nat),k<=yr/\x = .int .i64 (k:Int)/\wq=wr) (λx _=>yr-(intOf x).toNat)
        case atStart=>exact ⟨0,Nat.zero_le _,rfl,rfl⟩
        case round =>
         obtain ⟨k,hk,rfl,rfl⟩:=hrel;have hk0:(0:Int)<=(k:Int):=by omega
         by_cases hkl:k<yr
         · have hk1:(k:Int)<(yr:Int):=by omega
           have hkr:k<rr.length:=by have:=HYR.out;omega
           by_cases hkn:k<nr
           · obtain ⟨ga,oa,gb,ob,bb,rfl,rfl,hga,hgb,hbA,hbB⟩ :∃(ga oa gb ob:Nat) (bb:Bool),ya=some ⟨ga,oa,none⟩/\ra=some ⟨gb,ob,none⟩/\ga<wr.heap.size/\gb<wr.heap.size/\wr.cell? ⟨ga,oa+k*7,none⟩=some (.bool bb)/\wr.cell? ⟨gb,ob+k*7,none⟩=some (.bool bb):=by
              obtain ⟨a,ca',e1,_,hi⟩:=HRRw.out;obtain ⟨b,cb',e2,_,hi'⟩:=HRPw.out;have hkp:k<p.length:=by have:=HNP.out.2;omega
              have eg:rr[k]=p[k]:=by
               have:=HRR.out;subst this;exact joined_at hkp hkr
              obtain ⟨ga,oa,zl,zr,rfl,hga,c0,_⟩:=hi k hkr;obtain ⟨gb,ob,yl,yr',rfl,hgb,d0,_⟩:=hi' k hkp;rw [eg] at c0;have e1':ya=some ⟨ga,oa,none⟩:=by simp at e1;exact e1.1
              have e2':ra=some ⟨gb,ob,none⟩:=by simp at e2;exact e2.1
              exact ⟨ga,oa,gb,ob,_,e1',e2',hga,hgb,c0,d0⟩
             have hkn1:(k:Int)<(nr:Int):=by omega
             have hkn2:¬nr<=k:=by omega
             cases bb with
             | true =>
              go_wp2
              go_roundw
              case rel=>exact ⟨k+1,by omega,by go_num,trivial⟩
              case measure=>simp [intOf];omega
             | false =>
              go_wp2
              go_roundw
              case rel=>exact ⟨k+1,by omega,by go_num,trivial⟩
              case measure=>simp [intOf];omega
           · obtain ⟨i,hi⟩ :∃i,i=k-nr:=⟨_,rfl⟩;have him:i<mr:=by have:=HY2.out;omega
             obtain ⟨ga,oa,gb,ob,bb,rfl,rfl,hga,hgb,hbA,hbB⟩ :∃(ga oa gb ob:Nat) (bb:Bool),ya=some ⟨ga,oa,none⟩/\ua=some ⟨gb,ob,none⟩/\ga<wr.heap.size/\gb<wr.heap.size/\wr.cell? ⟨ga,oa+k*7,none⟩=some (.bool bb)/\wr.cell? ⟨gb,ob+i*7,none⟩=some (.bool bb):=by
              obtain ⟨a,ca',e1,_,hj⟩:=HRRw.out;obtain ⟨b,cb',e2,_,hj'⟩:=HRQw.out;have hkq:i<q.length:=by have:=HNQ.out.2;omega
              have hkk:k=p.length+i:=by have:=HNP.out.2;omega
              have eg:(rr[k]).b=(q[i]).b:=by
               have:=HRR.out;subst this hkk;exact joined_b hkq hkr
              obtain ⟨ga,oa,zl,zr,rfl,hga,c0,_⟩:=hj k hkr;obtain ⟨gb,ob,yl,yr',rfl,hgb,d0,_⟩:=hj' i hkq;rw [eg] at c0;have e1':ya=some ⟨ga,oa,none⟩:=by simp at e1;exact e1.1
              have e2':ua=some ⟨gb,ob,none⟩:=by simp at e2;exact e2.1
              exact ⟨ga,oa,gb,ob,_,e1',e2',hga,hgb,c0,d0⟩
             have hkn1:¬(k:Int)<(nr:Int):=by omega
             have hkn2:nr<=k:=by omega
             have hkn3:(nr:Int)<=(k:Int):=by omega
             have hi0:(0:Int)<=(i:Int):=by omega
             have hi1:(i:Int)<(mr:Int):=by omega
             have hsub:(k:Int)-(nr:Int)=(i:Int):=by omega
             clear hi;go_wp2
             go_roundw
             case rel=>exact ⟨k+1,by omega,by go_num,trivial⟩
             case measure=>simp [intOf];omega
         · obtain rfl:yr=k:=by omega
           have f0:wr.cell? ⟨w2.heap.size,0,none⟩=some (.slice sa ns sc):=cell_of_row _ _ 0 _ _ _ HE1'.out;have f1:wr.cell? ⟨w3.heap.size,0,none⟩=some (.slice ta ms tc):=cell_of_row _ _ 0 _ _ _ HE2'.out;have f2:wr.cell? ⟨w8.heap.size,0,none⟩=some (.slice xa xs xc):=cell_of_row _ _ 0 _ _ _ HE3'.out;have hle:(xs:Int)<=(ns:Int)+(ms:Int):=by omega
           go_wp2;go_ret;exact ⟨rfl,below_after HB09.out HBW.out⟩
end Go.Proofs.YtfdjchnckjgapaaGreatDoor
