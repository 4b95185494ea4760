/-
  RPlaP
-/
import Derived.Test.YtfdjchnckjgapaaGreatDoorZ26
import Derived.Test.YtfdjchnckjgapaaGreatDoorZ19
namespace Go.Proofs.YtfdjchnckjgapaaGreatDoor
set_option maxHeartbeats 8000000
set_option maxRecDepth 100000
open Go.RowKit Go.Shelf S1
set_option linter.unusedVariables false
def RPlA (c:Pc) (X:Nat->Prop) (P:Nat) (ts:List Tok) (st:Sts) (o:Option (Nat×Sts)) (w:World) (e:Ending) (w':World):Prop :=
 Fr w.heap.size P w w'/\((o=none/\e = .returned (.int .i64 0)/\Pa c X P w' ts st 3)\/∃i st',o=some (i,st')/\e = .returned (.int .i64 ((i:Nat):Int))/\Pa c X P w' ts st' 0)
theorem rplace_any (c:Pc) (X:Nat->Prop) (P:Nat) (w:World) (ts:List Tok) (st:Sts) (hpa:Pa c X P w ts st 0) (v:Value) (s:List Rg) (hv:RngS (Im X w P) w v s) (hs:IsSet s) :
 Calls Tryz.prog 151 #[.pointer (some ⟨P,0,none⟩),v] w λe w'=>RPlA c X P ts st (placeM st s) w e w':=by
 obtain ⟨i0,hi0,hz0,hz1,hz2⟩:=info_parts Tryz.infoSet8;obtain ⟨va,vc,rfl⟩:=hv.slice;obtain ⟨o,ho⟩ :∃o,o=placeM st s:=⟨_,rfl⟩;rw [<- ho];have HO:Hid (o=placeM st s):=ho;have HPA:Hid (Pa c X P w ts st 0):=hpa;have HV:Hid (RngS (Im X w P) w (.slice va s.length vc) s):=hv;have HS:Hid (IsSet s):=hs;have HI0:Hid (idxS s st=(idxS s (st.drop 0)).map (·+0)):=by show _=_;simp
 clear ho hpa hv hs;go_enter Tryz.func151,Tryz.ntmps151;go_wp2
 go_loopw [5] (λi wr=>∃k:Nat,k<=st.length/\i = .int .i64 k/\Hid (idxS s st=(idxS s (st.drop k)).map (·+k))/\Below w.heap.size w wr) (λi _=>st.length-(intOf i).toNat)
 case atStart=>exact ⟨0,Nat.zero_le _,rfl,HI0,Below.refl _ _⟩
 case round =>
  obtain ⟨k,hk,rfl,HD,hB⟩:=hrel;have HP1:Hid (Pa c X P wr ts st 0):=HPA.out.below hB;have HB:Hid (Below w.heap.size w wr):=hB;have HV1:Hid (RngS (Im X wr P) wr (.slice va s.length vc) s):=HV.out.fr (HPA.out.fr hB);obtain ⟨ad,cap,vs,c3,f3,hcp,hl60,hown,hss,hbP,hnP,hix⟩:=HP1.out.sets;have hPl:=HP1.out.lt;by_cases hlt:k<st.length
  · obtain ⟨g,off,x,rfl,hg,hc,hx,hi⟩:=hix k hlt;have h1:=sameG_any st[k] s (by have:=hi.len;omega) x (.slice va s.length vc) wr hx (HV1.out.rng (λk hk=>hk.1));obtain ⟨xa,xc,rfl,_⟩:=hx;have hk0:(0:Int)<=(k:Int):=by omega
    have hk1:(k:Int)<(st.length:Int):=by omega
    have HD2:=idxS_drop (s:=s) hlt;have HD3:Hid (idxS s (st.drop k)=if sameS st[k] s=true then some 0 else (idxS s (st.drop (k+1))).map (·+1)):=HD2;clear HD2 hown hss hix hnP hbP hB;cases hq:sameS st[k] s with
    | true =>
     rw [hq] at h1;have HE:Hid (o=some (k,st)):=by
      show _=_;rw [HO.out];unfold placeM;rw [HD.out,HD3.out,hq];simp
     clear HD HD3
     go_wp2_with fail
     refine h1.mono ?_;rintro e w1 ⟨rfl,hB1⟩;clear h1;go_wp2;go_ret;have hB2:=below_after HB.out hB1;exact ⟨HPA.out.fr hB2,.inr ⟨k,st,HE.out,rfl,HPA.out.below hB2⟩⟩
    | false =>
     rw [hq] at h1;have HE:Hid (idxS s st=(idxS s (st.drop (k+1))).map (·+(k+1))):=by
      show _=_;rw [HD.out,HD3.out,hq];simp only [Bool.false_eq_true,if_false,Option.map_map]
      congr 1
      funext j
      simp;omega
     clear HD HD3
     go_wp2_with fail
     refine h1.mono ?_;rintro e w1 ⟨rfl,hB1⟩;clear h1;go_wp2
     go_roundw
     case rel=>exact ⟨k+1,by omega,by go_num,HE,below_after HB.out hB1⟩
     case measure=>simp [intOf];omega
  · obtain rfl:k=st.length:=by omega
    have HIX:Hid (idxS s st=none):=by
     show _=_;rw [HD.out,List.drop_length];rfl
    by_cases h60:st.length=60
    · have h60':decide ((st.length:Int) ≥ 60)=true:=by simp;omega
      have HE:Hid (o=none):=by
       show _=_;rw [HO.out];unfold placeM;rw [HIX.out];simp [h60]
      have h2:=fail_any c X P wr st 0 HP1.out 3 (by decide);clear hown hss hix h60 HD hB
      go_wp2_with fail
      refine h2.mono ?_;rintro e w2 ⟨rfl,hp2,hf2⟩;clear h2;go_wp2;go_ret;have hfr:=HPA.out.fr HB.out;exact ⟨hfr.then hf2 hfr.size,.inl ⟨HE.out,rfl,hp2⟩⟩
    · have h60':decide ((st.length:Int) ≥ 60)=false:=by simp;omega
      have HE:Hid (o=some (st.length,st++[s])):=by
       show _=_;rw [HO.out];unfold placeM;rw [HIX.out];simp [h60]
      have HOW:Hid (wr.ownsRow c.base 43 1 (.slice ad st.length cap) st.length vs):=hown;have HSS:Hid (SetsS (Im X wr P) wr vs st):=hss;have HNP:Hid ((Value.slice ad st.length cap).ownBlock≠some P):=hnP;have HLT:Hid (st.length<60):=by show _<_;omega
      clear hown hss hix h60 hnP HD hB;have HC3:Hid ((wr.alloc (.cells #[.slice va s.length vc] 43)).cell? ⟨P,3,none⟩=some (.slice ad st.length cap)):=((below_alloc wr (.cells #[.slice va s.length vc] 43)).cell (p:=⟨P,3,none⟩) hPl).trans c3;have HF3:Hid ((wr.alloc (.cells #[.slice va s.length vc] 43)).frozen? ⟨P,3,none⟩=false):=(World.frozen?_of_block (a:=⟨P,3,none⟩) ((below_alloc wr (.cells #[.slice va s.length vc] 43)).block P hPl)).trans f3;have HOW4:Hid ((wr.alloc (.cells #[.slice va s.length vc] 43)).ownsRow c.base 43 1 (.slice ad st.length cap) st.length vs):=HOW.out.alloc _;have HN4:Hid ((wr.alloc (.cells #[.slice va s.length vc] 43)).heap[wr.heap.size]? = some (.cells #[.slice va s.length vc] 43 (0,0))):=heap_new' _ _;have hbs:c.base<=wr.heap.size:=by omega
      go_wp2_with (at_builtin;go_must (refine wpList_append_lies _ rfl (.tmp 43) (.tmp 45) 24 rfl c.base 43 i0 (.slice none 0 0) 1 24 Tryz.underlying24 hi0 hz0 hz1 hz2 rfl (by decide) _ _ _ rfl HOW4.out ⟨wr.heap.size,0,none⟩ 1 1 [.slice va s.length vc] rfl rfl (World.news_of_block HN4.out) (by simp [Value.oneCell']) (by omega) (by unfold maxLen;omega) (by omega) (by simp;omega) _ rfl ?_);intro g cap2 w2 hown2 hgrow2 hat2 hlt2;refine Hid.out ?_)
      refine Lib.hid ?_;have c32:w2.cell? ⟨P,3,none⟩=some (.slice ad st.length cap):=hgrow2.cell HC3.out (Ne.symm HNP.out);have f32:w2.frozen? ⟨P,3,none⟩=false:=(World.frozen?_of_block (a:=⟨P,3,none⟩) (hgrow2.block P (by simp;omega) (Ne.symm HNP.out))).trans HF3.out;have hsz2:=hgrow2.size;rw [show (wr.alloc (.cells #[.slice va s.length vc] 43)).heap.size=wr.heap.size+1 by simp] at hat2 hsz2;have HFIN:Hid (Pa c X P (w2.setCell ⟨P,3,none⟩ (.slice (some ⟨g,0,none⟩) (st.length+1) cap2)) ts (st++[s]) 0/\Fr wr.heap.size P wr (w2.setCell ⟨P,3,none⟩ (.slice (some ⟨g,0,none⟩) (st.length+1) cap2))) :=
       HP1.out.placed c3 HSS.out HLT.out HV1.out HS.out (by omega) hown2 (λk hk hne=>(hgrow2.block k (by simp;omega) (Ne.symm hne)).trans ((below_alloc wr _).block k hk)) (λj hj=>by
        obtain rfl:g=j:=by simpa [Value.ownBlock] using hj
        rcases hat2 with q | q
        · exact .inl q
        · exact .inr (by omega)) hgrow2.os hgrow2.tape hgrow2.output
      have hPl2:P<w2.heap.size:=by omega
      clear hown2 hgrow2 hat2 HC3 HF3 HOW HOW4 HN4 c3 f3;go_wp2;go_ret;have hfr:=HPA.out.fr HB.out;exact ⟨hfr.then HFIN.out.2 hfr.size,.inr ⟨st.length,st++[s],HE.out,by go_num,HFIN.out.1⟩⟩
theorem rsigned_any (n:Nd) (z:Value) (hz :∃a l c,z = .slice a l c) (w:World):Calls Tryz.prog 68 #[ndV n z] w λe w'=>e = .returned (.bool (signK n.k))/\Below w.heap.size w w':=by
 obtain ⟨za,zl,zc,rfl⟩:=hz;unfold ndV;have HB:Hid (Below w.heap.size w (w.alloc (.cells #[.int .i64 n.k,.int .i64 n.s,.slice za zl zc] 39))):=below_alloc _ _;cases h3:(n.k==3) with
 | true =>
  have HE:Hid (signK n.k=true):=by show _=_;simp [signK,h3]
  obtain ⟨b,hb⟩ :∃b,b=signK n.k:=⟨_,rfl⟩;rw [<- hb] at HE ⊢;clear hb;go_enter Tryz.func68,Tryz.ntmps68;go_wp2;go_ret;exact ⟨by rw [HE.out];rfl,HB.out⟩
 | false =>
  cases h4:(n.k==4) with
  | true =>
   have HE:Hid (signK n.k=true):=by show _=_;simp [signK,h4]
   obtain ⟨b,hb⟩ :∃b,b=signK n.k:=⟨_,rfl⟩;rw [<- hb] at HE ⊢;clear hb;go_enter Tryz.func68,Tryz.ntmps68;go_wp2;go_ret;exact ⟨by rw [HE.out];rfl,HB.out⟩
  | false =>
   have HE:Hid (signK n.k=(n.k==5)):=by show _=_;simp [signK,h3,h4]
   obtain ⟨b,hb⟩ :∃b,b=signK n.k:=⟨_,rfl⟩;rw [<- hb] at HE ⊢;clear hb;go_enter Tryz.func68,Tryz.ntmps68;go_wp2;go_ret;exact ⟨by rw [HE.out];rfl,HB.out⟩
theorem rends_any (Q:Nat->Prop) (c:Nat) (hc3:c<=3) (n:Nd) (z:Value) (w:World) (hq:∀k,Q k->k<w.heap.size) (hz:KdX Q w z n.kids) (hc:Chain c n) :
 Calls Tryz.prog 152 #[ndV n z] w λe w'=>e = .returned (.int .i64 (c:Int))/\Below w.heap.size w w':=by
 obtain ⟨za,zc,rfl,_⟩:=hz.slice;unfold ndV;have HB0:Hid (Below w.heap.size w (w.alloc (.cells #[.int .i64 n.k,.int .i64 n.s,.slice za n.kids.length zc] 39))):=below_alloc _ _;have HE0:Hid ((w.alloc (.cells #[.int .i64 n.k,.int .i64 n.s,.slice za n.kids.length zc] 39)).heap[w.heap.size]? = some (.cells #[.int .i64 n.k,.int .i64 n.s,.slice za n.kids.length zc] 39 (0,0))):=heap_new' _ _;have HZ:Hid (KdX Q w (.slice za n.kids.length zc) n.kids):=hz;have HQ:Hid (∀k,Q k->k<w.heap.size):=hq;have HC:Hid (Chain c n):=hc;clear hz hq hc;go_enter Tryz.func152,Tryz.ntmps152;go_wp2
 go_loopw [3] (λx wr=>∃(j:Nat) (m:Nd) (a:Option Addr) (cp:Nat),j<=c/\x = .int .i64 (j:Int)/\Hid (Chain (c-j) m)/\wr.heap[w.heap.size]? = some (.cells #[.int .i64 m.k,.int .i64 m.s,.slice a m.kids.length cp] 39 (0,0))/\Hid (KdX Q w (.slice a m.kids.length cp) m.kids)/\Below w.heap.size w wr) (λx _=>4-(intOf x).toNat)
 case atStart=>exact ⟨0,n,za,zc,Nat.zero_le _,rfl,HC,HE0.out,HZ,HB0.out⟩
 case round =>
  obtain ⟨j,m,a,cp,hj,rfl,HCm,hE,HZm,hB⟩:=hrel;have hlt:w.heap.size<wr.heap.size:=(Array.getElem?_eq_some_iff.1 hE).1;have d0:wr.cell? ⟨w.heap.size,0,none⟩=some (.int .i64 m.k):=cell_of_row _ _ 0 _ _ _ hE;have d1:wr.cell? ⟨w.heap.size,1,none⟩=some (.int .i64 m.s):=cell_of_row _ _ 1 _ _ _ hE;have d2:wr.cell? ⟨w.heap.size,2,none⟩=some (.slice a m.kids.length cp):=cell_of_row _ _ 2 _ _ _ hE;have h1:=rsigned_any m (.slice a m.kids.length cp) ⟨_,_,_,rfl⟩ wr;unfold ndV at h1;have HE:Hid (wr.heap[w.heap.size]? = some (.cells #[.int .i64 m.k,.int .i64 m.s,.slice a m.kids.length cp] 39 (0,0))):=hE;clear hE;by_cases hjc:j=c
  · have hsk:signK m.k=false:=by have:=HCm.out;rw [hjc,Nat.sub_self] at this;exact this
    rw [hsk] at h1;have HJ:Hid (j=c):=hjc;clear hjc hsk
    go_wp2_with fail
    refine h1.mono ?_;rintro e w1 ⟨rfl,hB1⟩;clear h1;go_wp2;go_ret;exact ⟨by rw [HJ.out];rfl,below_after hB hB1⟩
  · obtain ⟨e,he⟩ :∃e,c-j=e+1:=⟨c-j-1,by omega⟩;have hch:=HCm.out;rw [he] at hch;obtain ⟨hsk,x,hx,hcx⟩:=hch;have HCX:Hid (Chain (c-(j+1)) x):=by rw [show c-(j+1)=e by omega];exact hcx
    rw [hsk] at h1;have hzz:=HZm.out;rw [hx] at hzz d2 h1;obtain ⟨g,off,cap,z',e1,e2,e3,e4,e5,e6,e7⟩:=hzz.at 0 (by simp);simp only [List.getElem_cons_zero,Nat.zero_mul,Nat.add_zero] at e4 e5 e6 e7;obtain ⟨rfl,_,rfl⟩:a=some ⟨g,off,none⟩/\[x].length=[x].length/\cp=cap:=by simpa using e1
    obtain ⟨xa,xc,rfl,_⟩:=e7.slice;have hgl:=HQ.out g e3;have hgne:g≠w.heap.size:=by omega
    have HE7:Hid (KdX Q w (.slice xa x.kids.length xc) x.kids):=e7;have hHE:=HE.out;rw [hx] at hHE;simp only [List.length_cons,List.length_nil,Nat.zero_add] at d2 h1 hHE;have HE2:Hid (wr.heap[w.heap.size]? = some (.cells #[.int .i64 m.k,.int .i64 m.s,.slice (some ⟨g,off,none⟩) 1 cp] 39 (0,0))):=hHE;have hcp:1<=cp:=by simpa using e2
    clear hzz e1 e7 hcx hsk he hx HCm HZm HE hHE
    go_wp2_with fail
    refine h1.mono ?_;rintro e w1 ⟨rfl,hB1⟩;have hB01:=below_after hB hB1;have hE1:=(hB1.block w.heap.size hlt).trans HE2.out;have hlt1:w.heap.size<w1.heap.size:=Nat.lt_of_lt_of_le hlt hB1.size;have e4':w1.cell? ⟨g,off,none⟩=some (.int .i64 x.k):=(hB01.cell (p:=⟨g,_,none⟩) hgl).trans e4;have e5':w1.cell? ⟨g,off+1,none⟩=some (.int .i64 x.s):=(hB01.cell (p:=⟨g,_,none⟩) hgl).trans e5;have e6':w1.cell? ⟨g,off+2,none⟩=some (.slice xa x.kids.length xc):=(hB01.cell (p:=⟨g,_,none⟩) hgl).trans e6;clear d0 d1 d2;have d0:w1.cell? ⟨w.heap.size,0,none⟩=some (.int .i64 m.k):=cell_of_row _ _ 0 _ _ _ hE1;have f0:w1.frozen? ⟨w.heap.size,0,none⟩=false:=frozen_of_row _ _ 0 _ _ hE1;have d1:w1.cell? ⟨w.heap.size,1,none⟩=some (.int .i64 m.s):=cell_of_row _ _ 1 _ _ _ hE1;have f1:w1.frozen? ⟨w.heap.size,1,none⟩=false:=frozen_of_row _ _ 1 _ _ hE1;have d2:w1.cell? ⟨w.heap.size,2,none⟩=some (.slice (some ⟨g,off,none⟩) 1 cp):=cell_of_row _ _ 2 _ _ _ hE1;have f2:w1.frozen? ⟨w.heap.size,2,none⟩=false:=frozen_of_row _ _ 2 _ _ hE1;have HE1:Hid (w1.heap[w.heap.size]? = some (.cells #[.int .i64 m.k,.int .i64 m.s,.slice (some ⟨g,off,none⟩) 1 cp] 39 (0,0))):=hE1;have HB01:Hid (Below w.heap.size w w1):=hB01;clear h1 hE1 hB1 hB01 e4 e5 e6;go_wp2
    go_roundw
    case rel =>
     refine ⟨j+1,x,xa,xc,by omega,by go_num,HCX,?_,HE7,?_⟩
     · exact heap_set (heap_set (heap_set HE1.out _) _) _
     · exact ((HB01.out.setCell (by simp) _).setCell (by simp) _).setCell (by simp) _
    case measure=>simp [intOf];omega
end Go.Proofs.YtfdjchnckjgapaaGreatDoor
