/-
  PlaceP NodP
-/
import Derived.Test.YtfdjchnckjgapaaGreatDoorZ14
import Derived.Deep.RegionLaw
namespace Go.Proofs.YtfdjchnckjgapaaGreatDoor
set_option maxHeartbeats 8000000
set_option maxRecDepth 100000
open Go.RowKit Go.Shelf S1
set_option linter.unusedVariables false
theorem place1_any (s x:List Rg) (hlen:x.length<=600000) (v xv:Value) (B:Nat) (w:World) (hb:w.cell? ⟨B,0,none⟩=some v) (hv:RngIn w v s) (hx:RngIn w xv x) :
 Calls Tryz.prog 233 #[xv,.pointer (some ⟨B,0,none⟩)] w λe w'=>e = .returned (.bool (sameS x s))/\Below w.heap.size w w':=by
 have h1:=equal_any x s hlen xv v w hx hv;obtain ⟨va,vc,rfl,_⟩:=hv;obtain ⟨xa,xc,rfl,_⟩:=hx;go_enter Tryz.func233,Tryz.ntmps233
 go_wp2_with fail
 refine h1.mono ?_;rintro e w1 ⟨rfl,hB⟩;clear h1;go_wp2;go_ret;exact ⟨rfl,hB⟩
theorem idxS_drop {s:List Rg} {st:Sts} {k:Nat} (h:k<st.length):idxS s (st.drop k)=if sameS st[k] s=true then some 0 else (idxS s (st.drop (k+1))).map (·+1):=by
 rw [List.drop_eq_getElem_cons h];rfl
def idxV (o:Option Nat):Int:=match o with
 | some i=>(i:Int)
 | none=>-1
theorem index_any (s:List Rg) (st:Sts) (hst:st.length<=60) (v:Value) (B:Nat) (ad:Option Addr) (cap:Nat) (hcap:st.length<=cap) (w:World) (hb:w.cell? ⟨B,0,none⟩=some v) (hv:RngIn w v s)
 (hs:∀i,(h:i<st.length)->∃g off x,ad=some ⟨g,off,none⟩/\g<w.heap.size/\w.cell? ⟨g,off+i,none⟩=some x/\RngIn w x st[i]/\IsSet st[i]) :
 Calls Tryz.prog 104 #[.slice ad st.length cap,.func (.func 233) #[] #[.pointer (some ⟨B,0,none⟩)]] w λe w'=>e = .returned (.int .i64 (idxV (idxS s st)))/\Below w.heap.size w w':=by
 obtain ⟨o,ho⟩ :∃o,o=idxV (idxS s st):=⟨_,rfl⟩;rw [<- ho];have HO:Hid (o=idxV ((idxS s (st.drop 0)).map (·+0))):=by show _=_;rw [ho];simp
 have HS:Hid (∀i,(h:i<st.length)->∃g off x,ad=some ⟨g,off,none⟩/\g<w.heap.size/\w.cell? ⟨g,off+i,none⟩=some x/\RngIn w x st[i]/\IsSet st[i]):=hs;have HV:Hid (RngIn w v s):=hv;have hBl:B<w.heap.size:=World.block_lt_of_cell? w ⟨B,0,none⟩ hb;clear ho hs hv;go_enter Tryz.func104,Tryz.ntmps104;go_wp2
 go_loopw [8] (λi wr=>∃k:Nat,k<=st.length/\i = .int .i64 k/\Hid (o=idxV ((idxS s (st.drop k)).map (·+k)))/\Below w.heap.size w wr) (λi _=>st.length-(intOf i).toNat)
 case atStart=>exact ⟨0,Nat.zero_le _,rfl,HO,Below.refl _ _⟩
 case round =>
  obtain ⟨k,hk,rfl,HD,hB⟩:=hrel;by_cases hlt:k<st.length
  · obtain ⟨g,off,x,rfl,hg,hc,hx,hi⟩:=HS.out k hlt;have hc':wr.cell? ⟨g,off+k,none⟩=some x:=(hB.cell (p:=⟨g,_,none⟩) hg).trans hc;have h1:=place1_any s st[k] (by have:=hi.len;omega) v x B wr ((hB.cell (p:=⟨B,0,none⟩) hBl).trans hb) (HV.out.below hB) (hx.below hB);obtain ⟨xa,xc,rfl,_⟩:=hx;have hk0:(0:Int)<=(k:Int):=by omega
    have hk1:(k:Int)<(st.length:Int):=by omega
    have HD2:=idxS_drop (s:=s) hlt;have HD3:Hid (idxS s (st.drop k)=if sameS st[k] s=true then some 0 else (idxS s (st.drop (k+1))).map (·+1)):=HD2;clear HD2 hc;cases hq:sameS st[k] s with
    | true =>
     rw [hq] at h1;have HE:Hid (o=(k:Int)):=by
      show _=_;rw [HD.out,HD3.out,hq];simp [idxV]
     clear HD HD3
     go_wp2_with fail
     refine h1.mono ?_;rintro e w1 ⟨rfl,hB1⟩;clear h1;go_wp2;go_ret;exact ⟨by rw [HE.out];rfl,below_after hB (hB1)⟩
    | false =>
     rw [hq] at h1;have HE:Hid (o=idxV ((idxS s (st.drop (k+1))).map (·+(k+1)))):=by
      show _=_;rw [HD.out,HD3.out,hq];simp only [Bool.false_eq_true,if_false,Option.map_map]
      congr 2
      funext j
      simp;omega
     clear HD HD3
     go_wp2_with fail
     refine h1.mono ?_;rintro e w1 ⟨rfl,hB1⟩;clear h1;go_wp2
     go_roundw
     case rel=>exact ⟨k+1,by omega,by go_num,HE,below_after hB hB1⟩
     case measure=>simp [intOf];omega
  · obtain rfl:k=st.length:=by omega
    have HE:Hid (o=-1):=by
     show _=_;rw [HD.out,List.drop_length];rfl
    go_wp2;go_ret;exact ⟨by rw [HE.out];rfl,hB⟩
theorem Pa.sets {c:Pc} {X:Nat->Prop} {P:Nat} {w:World} {ts:List Tok} {st:Sts} {d:Nat} (h:Pa c X P w ts st d) :∃ad cap vs,w.cell? ⟨P,3,none⟩=some (.slice ad st.length cap)/\w.frozen? ⟨P,3,none⟩=false/\st.length<=cap/\st.length<=60/\w.ownsRow c.base 43 1 (.slice ad st.length cap) st.length vs/\SetsS (Im X w P) w vs st/\c.base<=P/\(Value.slice ad st.length cap).ownBlock≠some P /\
 ∀i,(h:i<st.length)->∃g off x,ad=some ⟨g,off,none⟩/\g<w.heap.size/\w.cell? ⟨g,off+i,none⟩=some x/\RngIn w x st[i]/\IsSet st[i]:=by
 obtain ⟨k,sv,h1,h2,h3⟩:=h;obtain ⟨e1,e2,e3,e4,e5,⟨vs,e6,e6'⟩,e7,e8,e9,e10,e11⟩:=h2;have hc:w.cell? ⟨P,3,none⟩=some sv:=by rw [row_cell h1];rfl
 have e6'':=e6;rcases e6.2 with ⟨rfl,h0⟩ | ⟨g,cap,cur,rfl,hb,hg,hc2,hm,hs,ht⟩
 · obtain rfl:st=[]:=List.length_eq_zero_iff.1 h0;exact ⟨none,0,vs,hc,row_frozen h1 3,by simp,by simp,e6,e6',e10,e7,λi hi=>(by cases hi)⟩
 · refine ⟨_,cap,vs,hc,row_frozen h1 3,hc2,e8,e6,e6',e10,e7,λi hi => ?_⟩;obtain ⟨x,q1,q2,q3⟩:=e6'.2 i hi;have:=e6''.cells (g:=g) rfl i x q1;rw [add_lit'] at this;exact ⟨g,0,x,rfl,(Array.getElem?_eq_some_iff.1 hg).1,this,q2.rng (λk hk=>hk.1),q3⟩
theorem Pa.placed {c:Pc} {X:Nat->Prop} {P:Nat} {w w1:World} {ts:List Tok} {st:Sts} {d:Nat} (h:Pa c X P w ts st d) {sv v nv:Value} {vs:List Value} {s:List Rg} (hsv:w.cell? ⟨P,3,none⟩=some sv) (hss:SetsS (Im X w P) w vs st) (hl:st.length<60)
 (hv:RngS (Im X w P) w v s) (hs:IsSet s) (hsz:w.heap.size<=w1.heap.size) (ho:w1.ownsRow c.base 43 1 nv (st.length+1) (vs++[v])) (hk:∀k,k<w.heap.size->sv.ownBlock≠some k->w1.heap[k]? = w.heap[k]?) (hn:∀g,nv.ownBlock=some g->sv.ownBlock=some g\/w.heap.size<=g)
 (hos:w1.os=w.os) (htp:w1.tape=w.tape) (hou:w1.output=w.output):Pa c X P (w1.setCell ⟨P,3,none⟩ nv) ts (st++[s]) d/\Fr w.heap.size P w (w1.setCell ⟨P,3,none⟩ nv):=by
 obtain ⟨k,sv',h1,h2,h3⟩:=h;obtain rfl:sv=sv':=by
  rw [row_cell h1] at hsv;simpa [Pc.row] using hsv.symm
 have h2':=h2;obtain ⟨e1,e2,e3,e4,e5,_,e7,e8,e9,e10,e11⟩:=h2;have hP:P<w.heap.size:=(Array.getElem?_eq_some_iff.1 h1).1;have hbl:∀j,j<w.heap.size->j≠P->sv.ownBlock≠some j->(w1.setCell ⟨P,3,none⟩ nv).heap[j]? = w.heap[j]? := λj hj hne hsj=>(Below.heap_setCell w1 ⟨P,3,none⟩ nv j (by simpa using hne)).trans (hk j hj hsj);have hrow:(w1.setCell ⟨P,3,none⟩ nv).heap[P]? = some (.cells (c.row k nv d) c.ty (0,0)):=by
  rw [heap_set ((hk P hP e7).trans h1)];simp [Pc.row]
 have hsz2:w.heap.size<=(w1.setCell ⟨P,3,none⟩ nv).heap.size:=by simpa [World.setCell] using hsz
 have him:∀Y:Nat->Prop,∀j,Im Y w P j->(w1.setCell ⟨P,3,none⟩ nv).heap[j]? = w.heap[j]? /\ Im Y (w1.setCell ⟨P,3,none⟩ nv) P j:=λY j hj=>by
  have hsj:sv.ownBlock≠some j:=hj.2.2.1 sv (by rw [row_cell h1];rfl);refine ⟨hbl j hj.1 hj.2.1 hsj,Nat.lt_of_lt_of_le hj.1 hsz2,hj.2.1,λx hx => ?_,hj.2.2.2⟩;rw [row_cell hrow] at hx;obtain rfl:nv=x:=by simpa [Pc.row] using hx
  intro q;rcases hn j q with q2 | q2
  · exact hsj q2
  · have:=hj.1;omega
 have hnP:nv.ownBlock≠some P:=λq=>by
  rcases hn P q with q2 | q2
  · exact e7 q2
  · omega
 have hlen:(st++[s]).length=st.length+1:=by simp
 refine ⟨⟨k,nv,hrow,⟨e1,e2,e3,e4,e5.to (him X),⟨vs++[v],?_,(hss.snoc hv hs).to (him X)⟩,hnP,by rw [hlen];omega,e9.to (him X) (Nat.le_refl _),e10,λj hj=>Nat.lt_of_lt_of_le (e11 j hj) hsz2⟩,h3⟩,⟨hos,htp,hou,hsz2,λj _ hj=>him NoX j hj⟩⟩;rw [hlen];exact own_block ho (λj hj=>Below.heap_setCell w1 ⟨P,3,none⟩ nv j (λq=>hnP (by rw [hj];exact congrArg some q)))
theorem Tryz.infoSet8:(Tryz.prog.info? 43).map (λi=>(i.zero,i.size,i.bytes))=some (some (.slice none 0 0),1,24):=by kernel_rfl
def PlA (c:Pc) (X:Nat->Prop) (P:Nat) (ts:List Tok) (st:Sts) (d:Nat) (o:Option (Nat×Sts)) (w:World) (e:Ending) (w':World):Prop :=
 Fr w.heap.size P w w'/\((o=none/\e = .returned (.tuple #[.int .i64 0,.int .i64 3])/\Pa c X P w' ts st d)\/∃i st',o=some (i,st')/\e = .returned (.tuple #[.int .i64 ((i:Nat):Int),.int .i64 0])/\Pa c X P w' ts st' d)
theorem place_ans (c:Pc) (X:Nat->Prop) (P:Nat) (w:World) (ts:List Tok) (st:Sts) (d:Nat) (hpa:Pa c X P w ts st d) (v:Value) (s:List Rg) (hv:RngS (Im X w P) w v s) (hs:IsSet s) :
 Calls Tryz.prog 225 #[.pointer (some ⟨P,0,none⟩),v] w λe w'=>PlA c X P ts st d (placeM st s) w e w':=by
 obtain ⟨i0,hi0,hz0,hz1,hz2⟩:=info_parts Tryz.infoSet8;obtain ⟨va,vc,rfl⟩:=hv.slice;obtain ⟨o,ho⟩ :∃o,o=placeM st s:=⟨_,rfl⟩;rw [<- ho];have HO:Hid (o=placeM st s):=ho;have hPl:=hpa.lt;have hB0:Below w.heap.size w (w.alloc (.cells #[.slice va s.length vc] 43)):=below_alloc _ _;have hp0:Pa c X P (w.alloc (.cells #[.slice va s.length vc] 43)) ts st d:=hpa.below hB0;have hbx:(w.alloc (.cells #[.slice va s.length vc] 43)).cell? ⟨w.heap.size,0,none⟩=some (.slice va s.length vc):=cell_of_row _ _ 0 _ _ _ (heap_new' w _);have hbf:(w.alloc (.cells #[.slice va s.length vc] 43)).heap[w.heap.size]? = some (.cells #[.slice va s.length vc] 43 (0,0)):=heap_new' w _;have hv0:RngS (Im X (w.alloc (.cells #[.slice va s.length vc] 43)) P) (w.alloc (.cells #[.slice va s.length vc] 43)) (.slice va s.length vc) s:=hv.fr (hpa.fr hB0);have hF0:Fr w.heap.size P w (w.alloc (.cells #[.slice va s.length vc] 43)):=hpa.fr hB0;have hsz0:(w.alloc (.cells #[.slice va s.length vc] 43)).heap.size=w.heap.size+1:=by simp
 obtain ⟨ad,cap,vs,c3,f3,hcp,hl60,hown,hss,hbP,hnP,hix⟩:=hpa.sets;have h1:=index_any s st hl60 (.slice va s.length vc) w.heap.size ad cap hcp (w.alloc (.cells #[.slice va s.length vc] 43)) hbx (hv0.rng (λk hk=>hk.1)) (λi hi=>by
  obtain ⟨g,off,x,e1,e2,e3,e4,e5⟩:=hix i hi;exact ⟨g,off,x,e1,by omega,(hB0.cell (p:=⟨g,_,none⟩) e2).trans e3,e4.below hB0,e5⟩)
 have HPA:Hid (Pa c X P w ts st d):=hpa;have HV:Hid (RngS (Im X w P) w (.slice va s.length vc) s):=hv;have HS:Hid (IsSet s):=hs;have HB0:Hid (Below w.heap.size w (w.alloc (.cells #[.slice va s.length vc] 43))):=hB0;have HBF:Hid ((w.alloc (.cells #[.slice va s.length vc] 43)).heap[w.heap.size]? = some (.cells #[.slice va s.length vc] 43 (0,0))):=hbf;have HSZ:Hid ((w.alloc (.cells #[.slice va s.length vc] 43)).heap.size=w.heap.size+1):=hsz0;clear ho hpa hv hs hB0 hp0 hv0 hF0 hbf hsz0 hown hss hix hnP hbx;obtain ⟨ix,hixe⟩ :∃ix,ix=idxS s st:=⟨_,rfl⟩;rw [<- hixe] at h1;have HIX:Hid (idxS s st=ix):=hixe.symm;clear hixe;go_enter Tryz.func225,Tryz.ntmps225
 go_wp2_with fail
 refine h1.mono ?_;rintro e w1 ⟨rfl,hB1⟩;have HB1:Hid (Below w.heap.size w w1):=below_after HB0.out hB1;have hbx1:w1.cell? ⟨w.heap.size,0,none⟩=some (.slice va s.length vc):=cell_of_row _ _ 0 _ _ _ ((hB1.block _ (by rw [HSZ.out];omega)).trans HBF.out);have hbs1:w.heap.size<w1.heap.size:=by have:=hB1.size;rw [HSZ.out] at this;omega
 clear h1;cases ix with
 | some i =>
  have HE:Hid (o=some (i,st)):=by
   show _=_;rw [HO.out];unfold placeM;rw [HIX.out]
  unfold idxV;have hi0:decide (0<=(i:Int))=true:=by simp
  go_wp2
  go_ret2
  exact ⟨HPA.out.fr HB1.out,.inr ⟨i,st,HE.out,rfl,HPA.out.below HB1.out⟩⟩
 | none =>
  unfold idxV;have HP1:Hid (Pa c X P w1 ts st d):=HPA.out.below HB1.out;have hv1:=HV.out.fr (HPA.out.fr HB1.out);have HV1:Hid (RngS (Im X w1 P) w1 (.slice va s.length vc) s):=hv1;clear c3 f3 hcp hl60 hbP hv1;obtain ⟨ad,cap,vs,c3,f3,hcp,hl60,hown,hss,hbP,hnP,hix⟩:=HP1.out.sets;have hPl1:=HP1.out.lt;by_cases h60:st.length=60
  · have h60':((st.length:Int)==60)=true:=by simp [h60]
    have HE:Hid (o=none):=by
     show _=_;rw [HO.out];unfold placeM;rw [HIX.out];simp [h60]
    clear hown hss hix h60;go_wp2
    go_ret2
    exact ⟨HPA.out.fr HB1.out,.inl ⟨HE.out,rfl,HP1.out⟩⟩
  · have h60':((st.length:Int)==60)=false:=by simp;omega
    have HE:Hid (o=some (st.length,st++[s])):=by
     show _=_;rw [HO.out];unfold placeM;rw [HIX.out];simp [h60]
    have HOW:Hid (w1.ownsRow c.base 43 1 (.slice ad st.length cap) st.length vs):=hown;have HSS:Hid (SetsS (Im X w1 P) w1 vs st):=hss;have HNP:Hid ((Value.slice ad st.length cap).ownBlock≠some P):=hnP;have HLT:Hid (st.length<60):=by show _<_;omega
    clear hown hss hix h60 hnP;have HC3:Hid ((w1.alloc (.cells #[.slice va s.length vc] 43)).drew.cell? ⟨P,3,none⟩=some (.slice ad st.length cap)):=((below_alloc w1 (.cells #[.slice va s.length vc] 43)).cell (p:=⟨P,3,none⟩) hPl1).trans c3;have HF3:Hid ((w1.alloc (.cells #[.slice va s.length vc] 43)).drew.frozen? ⟨P,3,none⟩=false):=(World.frozen?_of_block (a:=⟨P,3,none⟩) ((below_alloc w1 (.cells #[.slice va s.length vc] 43)).block P hPl1)).trans f3;go_wp2
    go_region_law (refine step_append_lies _ (by rfl) (.tmp 31) (.tmp 33) 24 (by rfl) c.base 43 i0 (.slice none 0 0) 1 24 Tryz.underlying24 hi0 hz0 hz1 hz2 rfl (by decide) (.slice ad st.length cap) st.length vs (by rfl) (by exact (HOW.out.alloc _).drew) ⟨w1.heap.size,0,none⟩ 1 1 [.slice va s.length vc] (by rfl) rfl (by exact cell_one_new _ _ _) (by simp [Value.oneCell']) (by omega) (by unfold maxLen;omega) (by omega) (by simp;omega) _ rfl ?_;intro g cap2 w2 hown2 hgrow2 hat2 hlt2;have c32:w2.cell? ⟨P,3,none⟩=some (.slice ad st.length cap):=hgrow2.cell HC3.out (Ne.symm HNP.out);have f32:w2.frozen? ⟨P,3,none⟩=false:=(World.frozen?_of_block (a:=⟨P,3,none⟩) (hgrow2.block P (by simp [World.drew];omega) (Ne.symm HNP.out))).trans HF3.out)
    all_goals
     have hsz2:=hgrow2.size;rw [show (w1.alloc (Obj.cells #[Value.slice va s.length vc] 43)).drew.heap.size=w1.heap.size+1 by simp [World.drew]] at hat2 hsz2;have HFIN:Hid (Pa c X P (w2.setCell ⟨P,3,none⟩ (.slice (some ⟨g,0,none⟩) (st.length+1) cap2)) ts (st++[s]) d/\Fr w1.heap.size P w1 (w2.setCell ⟨P,3,none⟩ (.slice (some ⟨g,0,none⟩) (st.length+1) cap2))) :=
      HP1.out.placed c3 HSS.out HLT.out HV1.out HS.out (by omega) hown2 (λk hk hne=>(hgrow2.block k (by simp [World.drew];omega) (Ne.symm hne)).trans ((below_alloc w1 _).block k hk)) (λj hj=>by
       obtain rfl:g=j:=by simpa [Value.ownBlock] using hj
       rcases hat2 with q | q
       · exact .inl q
       · exact .inr (by omega)) hgrow2.os hgrow2.tape hgrow2.output
     clear hown2 hgrow2 hat2 HC3 HF3 HOW c3 f3;go_wp2
     go_ret2
     have hfr:=HPA.out.fr HB1.out;exact ⟨hfr.then HFIN.out.2 hfr.size,.inr ⟨st.length,st++[s],HE.out,rfl,HFIN.out.1⟩⟩
def KidS (Q:Nat->Prop) (w:World):Nat->Value->List Nd->Prop
 | 0,z,l=>l=[]/\∃a cap,z = .slice a 0 cap
 | f+1,z,l=>∃a cap,z = .slice a l.length cap/\l.length<=cap/\∀i,(h:i<l.length)->∃g off z',a=some ⟨g,off,none⟩/\Q g/\w.cell? ⟨g,off+i*3,none⟩=some (.int .i64 l[i].k)/\w.cell? ⟨g,off+i*3+1,none⟩=some (.int .i64 l[i].s)/\w.cell? ⟨g,off+i*3+2,none⟩=some z'/\KidS Q w f z' l[i].kids
theorem KidS.up {Q:Nat->Prop} {w:World}:∀ {f:Nat} {z:Value} {l:List Nd},KidS Q w f z l->KidS Q w (f+1) z l
 | 0,z,l,⟨h,a,cap,e⟩=>by
  subst h;exact ⟨a,cap,e,Nat.zero_le _,λi h=>(by cases h)⟩
 | f+1,z,l,⟨a,cap,e,hc,hi⟩=>⟨a,cap,e,hc,λi h=>by
  obtain ⟨g,off,z',h1,h2,h3,h4,h5,h6⟩:=hi i h;exact ⟨g,off,z',h1,h2,h3,h4,h5,h6.up⟩⟩
theorem KidS.le {Q:Nat->Prop} {w:World} {z:Value} {l:List Nd} {f:Nat} (h:KidS Q w f z l):∀k,KidS Q w (f+k) z l
 | 0=>h
 | k+1=>(KidS.le h k).up
theorem KidS.to {Q Q':Nat->Prop} {w w':World} (hq:∀k,Q k->w'.heap[k]? = w.heap[k]? /\ Q' k):∀ {f:Nat} {z:Value} {l:List Nd},KidS Q w f z l->KidS Q' w' f z l
 | 0,z,l,h=>h
 | f+1,z,l,⟨a,cap,e,hc,hi⟩=>⟨a,cap,e,hc,λi h=>by
  obtain ⟨g,off,z',h1,h2,h3,h4,h5,h6⟩:=hi i h;obtain ⟨hb,hg⟩:=hq g h2;exact ⟨g,off,z',h1,hg,(World.cell?_of_block (a:=⟨g,_,none⟩) hb).trans h3,(World.cell?_of_block (a:=⟨g,_,none⟩) hb).trans h4,(World.cell?_of_block (a:=⟨g,_,none⟩) hb).trans h5,h6.to hq⟩⟩
def KdX (Q:Nat->Prop) (w:World) (z:Value) (l:List Nd):Prop:=∃f,KidS Q w f z l
theorem KdX.to {Q Q':Nat->Prop} {w w':World} {z:Value} {l:List Nd} (h:KdX Q w z l) (hq:∀k,Q k->w'.heap[k]? = w.heap[k]? /\ Q' k):KdX Q' w' z l:=by
 obtain ⟨f,h⟩:=h;exact ⟨f,h.to hq⟩
theorem KdX.nil (Q:Nat->Prop) (w:World):KdX Q w (.slice none 0 0) []:=⟨0,rfl,_,_,rfl⟩
theorem KdX.slice {Q:Nat->Prop} {w:World} {z:Value} {l:List Nd} (h:KdX Q w z l) :∃a cap,z = .slice a l.length cap/\(l.length<=cap\/l=[]):=by
 obtain ⟨f,h⟩:=h;cases f with
 | zero=>obtain ⟨rfl,a,cap,e⟩:=h;exact ⟨a,cap,e,.inr rfl⟩
 | succ f=>obtain ⟨a,cap,e,hc,_⟩:=h;exact ⟨a,cap,e,.inl hc⟩
theorem KdX.at {Q:Nat->Prop} {w:World} {z:Value} {l:List Nd} (h:KdX Q w z l) (i:Nat) (hi:i<l.length) :∃g off cap z',z = .slice (some ⟨g,off,none⟩) l.length cap/\l.length<=cap/\Q g/\w.cell? ⟨g,off+i*3,none⟩=some (.int .i64 l[i].k)/\w.cell? ⟨g,off+i*3+1,none⟩=some (.int .i64 l[i].s)/\w.cell? ⟨g,off+i*3+2,none⟩=some z'/\KdX Q w z' l[i].kids:=by
 obtain ⟨f,h⟩:=h;cases f with
 | zero=>obtain ⟨rfl,_⟩:=h;cases hi
 | succ f =>
  obtain ⟨a,cap,rfl,hc,hx⟩:=h;obtain ⟨g,off,z',rfl,h2,h3,h4,h5,h6⟩:=hx i hi;exact ⟨g,off,cap,z',rfl,hc,h2,h3,h4,h5,f,h6⟩
def ndV (n:Nd) (z:Value):Value := .agg #[.int .i64 n.k,.int .i64 n.s,z]
def cellsN (x:Nd×Value):List Value:=[.int .i64 x.1.k,.int .i64 x.1.s,x.2]
def cellsNs (l:List (Nd×Value)):List Value:=l.flatMap cellsN
theorem cellsNs_snoc (l:List (Nd×Value)) (x:Nd×Value):cellsNs (l++[x])=cellsNs l++cellsN x:=by simp [cellsNs]
theorem cellsNs_length:∀(l:List (Nd×Value)),(cellsNs l).length=l.length*3
 | []=>rfl
 | x::l=>by
  have e:cellsNs (x::l)=cellsN x++cellsNs l:=rfl;rw [e,List.length_append,cellsNs_length l];simp [cellsN];omega
theorem cellsNs_at:∀(l:List (Nd×Value)) (i j:Nat) (h:i<l.length),j<3->(cellsNs l)[i*3+j]? = (cellsN l[i])[j]?
 | u::us,0,j,h,hj=>by
  have e:cellsNs (u::us)=cellsN u++cellsNs us:=rfl;rw [e,Nat.zero_mul,Nat.zero_add,List.getElem?_append_left (by simpa [cellsN] using hj)];rfl
 | u::us,i+1,j,h,hj=>by
  have e:cellsNs (u::us)=cellsN u++cellsNs us:=rfl;rw [e,List.getElem?_append_right (by simp [cellsN];omega)];have e2:(i+1)*3+j-(cellsN u).length=i*3+j:=by simp [cellsN];omega
  rw [e2,cellsNs_at us i j (by simpa using h) hj];rfl
def KidsX (Q:Nat->Prop) (w:World) (l:List (Nd×Value)):Prop:=∀x∈l,KdX Q w x.2 x.1.kids
theorem KidsX.to {Q Q':Nat->Prop} {w w':World} {l:List (Nd×Value)} (h:KidsX Q w l) (hq:∀k,Q k->w'.heap[k]? = w.heap[k]? /\ Q' k):KidsX Q' w' l:=λx hx=>(h x hx).to hq
theorem kids_fuel {Q:Nat->Prop} {w:World}:∀ {l:List (Nd×Value)},KidsX Q w l->∃f,∀x∈l,KidS Q w f x.2 x.1.kids
 | [],_=>⟨0,λx h=>(by cases h)⟩
 | y::l,h=>by
  obtain ⟨f,hf⟩:=kids_fuel (l:=l) (λx hx=>h x (by simp [hx]));obtain ⟨g,hg⟩:=h y (by simp);refine ⟨f+g,λx hx => ?_⟩;rcases List.mem_cons.1 hx with rfl | hx
  · rw [Nat.add_comm];exact hg.le f
  · exact (hf x hx).le g
theorem kids_of_row {Q:Nat->Prop} {w:World} {base:Nat} {v:Value} {l:List (Nd×Value)} (h:w.ownsRow base 39 3 v l.length (cellsNs l)) (hk:KidsX Q w l) (hq:∀g,v.ownBlock=some g->Q g):KdX Q w v (l.map Prod.fst):=by
 obtain ⟨f,hf⟩:=kids_fuel hk;rcases h.2 with ⟨rfl,h0⟩ | ⟨g,cap,cur,rfl,hb,hg,hc,hm,hs,ht⟩
 · obtain rfl:l=[]:=List.length_eq_zero_iff.1 h0;exact KdX.nil _ _
 · have key:∀i j x,i<l.length->(cellsNs l)[i*3+j]? = some x->w.cell? ⟨g,0+i*3+j,none⟩=some x:=λi j x hi hx=>by
    have:=h.cells (g:=g) rfl (i*3+j) x hx;rw [add_lit'] at this;rw [Nat.add_assoc];exact this
   refine ⟨f+1,some ⟨g,0,none⟩,cap,by simp,by simpa using hc,λi hi => ?_⟩;have hi':i<l.length:=by simpa using hi
   have el:(l.map Prod.fst)[i]=l[i].1:=by simp
   rw [el];exact ⟨g,0,l[i].2,rfl,hq g rfl,key i 0 _ hi' (by rw [cellsNs_at l i 0 hi' (by omega)];rfl),key i 1 _ hi' (by rw [cellsNs_at l i 1 hi' (by omega)];rfl),key i 2 _ hi' (by rw [cellsNs_at l i 2 hi' (by omega)];rfl),hf _ (List.getElem_mem hi')⟩
theorem KdX.fr {P:Nat} {w w':World} {X:Nat->Prop} {lo:Nat} {z:Value} {l:List Nd} (h:KdX (λk=>lo<=k/\Im X w P k) w z l) (hf:Fr w.heap.size P w w'):KdX (λk=>lo<=k/\Im X w' P k) w' z l:=h.to (λk hk=>by
 obtain ⟨e1,e2⟩:=hf.all k hk.2;exact ⟨e1,hk.1,e2⟩)
def Chain:Nat->Nd->Prop
 | 0,n=>signK n.k=false
 | c+1,n=>signK n.k=true/\∃x,n.kids=[x]/\Chain c x
theorem Chain.cnt:∀ {c:Nat} {n:Nd} (f:Nat),Chain c n->c<f->cntN f n=c
 | 0,n,0,h,hf=>by omega
 | 0,n,f+1,h,hf=>by unfold cntN;rw [if_neg (by simp [show signK n.k=false from h])]
 | c+1,n,0,h,hf=>by omega
 | c+1,n,f+1,h,hf=>by
  obtain ⟨h1,x,h2,h3⟩:=h;unfold cntN;rw [if_pos h1,h2];show cntN f x+1=c+1;rw [h3.cnt f (by omega)]
def SgOk (n:Nd):Prop:=∃c,c<=3/\Chain c n
theorem joinN_ok {k:Int} (hk:signK k=false):∀ {l:List Nd},(∀x∈l,SgOk x)->SgOk (joinN k l)
 | [],_=>⟨0,by omega,hk⟩
 | [x],h=>h x (by simp)
 | x::y::l,_=>⟨0,by omega,hk⟩
theorem kindT_sign {t:Tok} (h:kindT t≠0):signK (kindT t)=true:=by
 unfold kindT at h ⊢
 split
 · rfl
 · split
   · rfl
   · split
     · rfl
     · rename_i h1 h2 h3;simp [h1,h2,h3] at h
theorem signF_ok:∀(f c:Nat) (n:Nd) (ts:List Tok) (st:Sts) {m:Nd} {r:List Tok} {st':Sts},Chain c n->c<=3->signF f c n ts st = .inr (m,r,st')->SgOk m
 | 0,c,n,ts,st,m,r,st',hc,h3,h=>by cases h;exact ⟨c,h3,hc⟩
 | f+1,c,n,ts,st,m,r,st',hc,h3,h=>by
  unfold signF at h
  split at h
  · cases h;exact ⟨c,h3,hc⟩
  · rename_i hk
    split at h
    · cases h
    · exact signF_ok f (c+1) _ _ _ ⟨kindT_sign hk,n,rfl,hc⟩ (by omega) h
theorem signedM_ok {p:List Tok->Sts->NR Nd} (hp:∀ts st n r st',p ts st = .inr (n,r,st')->SgOk n) {ts:List Tok} {st:Sts} {n:Nd} {r:List Tok} {st':Sts} (h:signedM p ts st = .inr (n,r,st')):SgOk n:=by
 unfold signedM at h
 split at h
 · cases h
 · rename_i m r1 st1 he;obtain ⟨c,h3,hc⟩:=hp _ _ _ _ _ he;rw [hc.cnt 4 (by omega)] at h;exact signF_ok 4 c m r1 st1 hc h3 h
theorem catF_ok {p:List Tok->Sts->NR Nd} (hp:∀ts st n r st',p ts st = .inr (n,r,st')->SgOk n):∀(f:Nat) (acc:List Nd) (ts:List Tok) (st:Sts) {l:List Nd} {r:List Tok} {st':Sts},(∀x∈acc,SgOk x)->catF p f acc ts st = .inr (l,r,st')->∀x∈l,SgOk x
 | 0,acc,ts,st,l,r,st',ha,h=>by cases h;exact ha
 | f+1,acc,ts,st,l,r,st',ha,h=>by
  unfold catF at h
  split at h
  · split at h
    · cases h
    · rename_i n r1 st1 he;exact catF_ok hp f _ _ _ (λx hx=>by
       rcases List.mem_append.1 hx with q | q
       · exact ha x q
       · obtain rfl:x=n:=by simpa using q
         exact hp _ _ _ _ _ he) h
  · cases h;exact ha
theorem altF_ok {p:List Tok->Sts->NR Nd} (hp:∀ts st n r st',p ts st = .inr (n,r,st')->SgOk n):∀(f:Nat) (acc:List Nd) (ts:List Tok) (st:Sts) {l:List Nd} {r:List Tok} {st':Sts},(∀x∈acc,SgOk x)->altF p f acc ts st = .inr (l,r,st')->∀x∈l,SgOk x
 | 0,acc,ts,st,l,r,st',ha,h=>by cases h;exact ha
 | f+1,acc,ts,st,l,r,st',ha,h=>by
  unfold altF at h
  split at h
  · split at h
    · cases h
    · rename_i n r1 st1 he;exact altF_ok hp f _ _ _ (λx hx=>by
       rcases List.mem_append.1 hx with q | q
       · exact ha x q
       · obtain rfl:x=n:=by simpa using q
         exact hp _ _ _ _ _ he) h
  · cases h;exact ha
theorem catM_ok {p:List Tok->Sts->NR Nd} (hp:∀ts st n r st',p ts st = .inr (n,r,st')->SgOk n):∀ts st n r st',catM p ts st = .inr (n,r,st')->SgOk n:=λts st n r st' h=>by
 unfold catM at h
 split at h
 · cases h
 · rename_i l r1 st1 he;cases h;exact joinN_ok rfl (catF_ok hp _ _ _ _ (λx hx=>(by cases hx)) he)
theorem regexG_ok {p:List Tok->Sts->NR Nd} (hp:∀ts st n r st',p ts st = .inr (n,r,st')->SgOk n):∀ts st n r st',regexG p ts st = .inr (n,r,st')->SgOk n:=λts st n r st' h=>by
 unfold regexG at h
 split at h
 · cases h
 · rename_i m r1 st1 he
   split at h
   · cases h
   · rename_i l r2 st2 he2;cases h;exact joinN_ok rfl (altF_ok hp _ _ _ _ (λx hx=>by
      obtain rfl:x=m:=by simpa using hx
      exact hp _ _ _ _ _ he) he2)
theorem partM_ok {N:Nms} {f:Option (List Tok->Sts->NR Nd)} (hf:∀g,f=some g->∀ts st n r st',g ts st = .inr (n,r,st')->SgOk n):∀ts st n r st',partM N f ts st = .inr (n,r,st')->SgOk n:=λts st n r st' h=>by
 unfold partM at h
 split at h
 · split at h
   · cases h
   · rename_i g;cases hq:g ts.tail st with
     | inl x=>rw [hq] at h;cases h
     | inr x =>
      obtain ⟨m,r1,st1⟩:=x;rw [hq] at h;simp only [endN] at h
      split at h
      · cases h;exact hf g rfl _ _ _ _ _ hq
      · cases h
 · split at h
   · cases h
   · split at h
     · cases h
     · cases h;exact ⟨0,by omega,rfl⟩
theorem regexM_ok (N:Nms):∀(b:Nat),∀ts st n r st',regexM N b ts st = .inr (n,r,st')->SgOk n
 | 0=>regexG_ok (catM_ok (λ_ _ _ _ _=>signedM_ok (partM_ok (λg h=>by cases h))))
 | b+1=>regexG_ok (catM_ok (λ_ _ _ _ _=>signedM_ok (partM_ok (λg h=>by cases h;exact regexM_ok N b))))
theorem inner_ok (N:Nms) (b:Nat):∀g,inner N b=some g->∀ts st n r st',g ts st = .inr (n,r,st')->SgOk n:=λg h=>by
 cases b with
 | zero=>cases h
 | succ b=>cases h;exact regexM_ok N b
end Go.Proofs.YtfdjchnckjgapaaGreatDoor
