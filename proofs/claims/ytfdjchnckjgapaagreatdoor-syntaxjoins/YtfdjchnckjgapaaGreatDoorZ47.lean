/-
  RPriP SetMath
-/
import Derived.Test.YtfdjchnckjgapaaGreatDoorZ46
import Derived.Test.YtfdjchnckjgapaaGreatDoorZ45
import Derived.Lib.ConvBytes
import Derived.Test.YtfdjchnckjgapaaGreatDoorZ42
import Derived.Test.YtfdjchnckjgapaaGreatDoorZ10
namespace Go.Proofs.YtfdjchnckjgapaaGreatDoor
set_option maxHeartbeats 16000000
set_option maxRecDepth 100000
open Go.RowKit Go.Shelf S1
set_option linter.unusedVariables false
theorem le_sum {z:Nd->Nat}:∀ {l:List Nd} {x:Nd},x∈l->z x<=(l.map z).sum
 | y::l,x,h=>by
  rcases List.mem_cons.1 h with rfl | h
  · simp
  · have:=le_sum (z:=z) h;simp;omega
theorem okN_kids {f dp sg:Nat} {n:Nd} (h:okN (f+1) dp sg n=true):(n.k=1->n.kids=[])/\(n.k≠1->∀x∈n.kids,∃dp' sg',okN f dp' sg' x=true):=by
 unfold okN at h;refine ⟨λhk => ?_,λhk x hx => ?_⟩
 · rw [if_pos hk] at h;exact List.isEmpty_iff.1 h
 · rw [if_neg hk,Bool.and_eq_true,List.all_eq_true] at h;have:=h.2 x hx;rw [Bool.and_eq_true] at this;exact ⟨_,_,this.2⟩
theorem text_any8 (st:Sts) (hfit:∀s∈st,Fits s) (hs40:∀s∈st,s.length<=3100) (sv:Value):∀(d:Nat) (n:Nd) (z:Value) (dp sg:Nat) (w:World),Dp d n.kids->okN d dp sg n=true->SIn d st.length n->Sz d n<3100->SetIn w sv st->KdX (λk=>k<w.heap.size) w z n.kids ->
 Calls Tryz.prog 28 #[ndV n z,sv] w λe w'=>e = .returned (.string (strOfNums (txN d (st.map setL) n)))/\Below w.heap.size w w':=by
 have hSL:∀s∈st.map setL,s.length<=69900:=λs hs=>by
  obtain ⟨l,hl,rfl⟩:=List.mem_map.1 hs;have h5:=hs40 l hl;have h6:=setL_len l;omega
 have key:∀(n:Nd) (w:World) (b:Nat),SIn b st.length n->SetIn w sv st->n.k=1->∃(gs os cs si sl:Nat) (xv:Value),sv = .slice (some ⟨gs,os,none⟩) sl cs/\n.s=(si:Int)/\si<sl/\sl<=cs/\gs<w.heap.size/\w.cell? ⟨gs,os+si,none⟩=some xv/\(∃a m c,xv = .slice a m c)/\∀W,Below w.heap.size w W->Calls Tryz.prog 57 #[xv] W λe w'=>e = .returned (.string (strOfNums (headT (st.map setL) n)))/\Below W.heap.size W w':=λn w b hsi hsv hk=>by
  obtain ⟨h0,h1⟩:=hsi.here hk;obtain ⟨a,cap,rfl,hc,hi⟩:=hsv;have hsl:n.s.toNat<st.length:=by omega
  obtain ⟨g,off,x,rfl,hg,hx,hr⟩:=hi _ hsl;have hr':=hr;obtain ⟨xa,xc,e,_⟩:=hr';refine ⟨g,off,cap,n.s.toNat,st.length,x,rfl,by omega,hsl,hc,hg,hx,⟨_,_,_,e⟩,λW hW => ?_⟩;have:=refSetTxt_any _ (hfit _ (List.getElem_mem hsl)) (by have:=hs40 _ (List.getElem_mem hsl);omega) x W (hr.below hW);have eh:headT (st.map setL) n=setL st[n.s.toNat]:=by
   unfold headT;rw [if_pos hk];simp [hsl]
  rw [eh];exact this
 intro d
 induction d with
 | zero =>
  intro n z dp sg w hd ho hsi hz hsv hk;obtain ⟨a,ca,rfl,_⟩:=hk.slice;have h0:n.kids=[]:=hd;refine text_body n a ca 0 (st.map setL) sv (txN 0 (st.map setL) n) (by rw [h0];simp) w (λ_=>h0) ?_ ?_ (λx hx=>by rw [h0] at hx;cases hx) (key n w 0 hsi hsv) (λi hi=>by rw [h0] at hi;cases hi)
  · rw [h0];rfl
  · have:=txN_len hSL 0 n;have e:Sz 0 n=1:=rfl;omega
 | succ d ih =>
  intro n z dp sg w hd ho hsi hz hsv hk;obtain ⟨a,ca,rfl,_⟩:=hk.slice;have hz':1+(n.kids.map (Sz d)).sum<3100:=hz;refine text_body n a ca d (st.map setL) sv (txN (d+1) (st.map setL) n) hd.1 w (okN_kids ho).1 rfl ?_ (λx hx => ?_) (key n w (d+1) hsi hsv) (λi hi => ?_)
  · have:=txN_len hSL (d+1) n;omega
  · have:=txN_len hSL d x;have:=le_sum (z:=Sz d) hx;omega
  · obtain ⟨g,off,cap,z',e1,e2,e3,e4,e5,e6,e7⟩:=hk.at i hi;obtain ⟨rfl,_,rfl⟩:a=some ⟨g,off,none⟩/\n.kids.length=n.kids.length/\ca=cap:=by simpa using e1
    obtain ⟨xa,xc,rfl,_⟩:=e7.slice;refine ⟨e2,g,off,xa,xc,rfl,e3,e4,e5,e6,λW hB => ?_⟩;have hne:n.k≠1:=λq=>by rw [(okN_kids ho).1 q] at hi;cases hi
    obtain ⟨dp',sg',ho'⟩:=(okN_kids ho).2 hne _ (List.getElem_mem hi);have:=le_sum (z:=Sz d) (List.getElem_mem hi);exact ih n.kids[i] _ dp' sg' W (hd.2 _ (List.getElem_mem hi)) ho' (hsi.2 _ (List.getElem_mem hi)) (by omega) (hsv.below hB) (e7.to (λk hk=>⟨hB.block k hk,Nat.lt_of_lt_of_le hk hB.size⟩))
theorem mayN_ok {f dp sg m:Nat} {n:Nd} {m':Nat} (h:mayN f dp sg m n=some m'):okN f dp sg n=true:=by
 unfold mayN at h
 split at h
 · assumption
 · cases h
theorem mayR_ok:∀ {rl:List Rl} {m m':Nat},mayR m rl=some m'->∀x∈rl,okN 120 0 0 x.l=true/\okN 120 0 0 x.r=true
 | [],m,m',_=>λx hx=>(by cases hx)
 | x::l,m,m',h=>by
  rw [mayR] at h
  split at h
  · cases h
  · rename_i m1 h1
    split at h
    · cases h
    · rename_i m2 h2;intro y hy;rcases List.mem_cons.1 hy with rfl | hy
      · exact ⟨mayN_ok h1,mayN_ok h2⟩
      · exact mayR_ok h y hy
def TxtB (w:World) (v:Value) (l:List Int):Prop:=∃a cap,v = .slice a l.length cap/\l.length<=cap/\(a=none->l=[]/\cap=0)/\∀i,(h:i<l.length)->∃g off,a=some ⟨g,off,none⟩/\g<w.heap.size/\w.cell? ⟨g,off+i,none⟩=some (.int .u8 l[i])
theorem TxtB.below {w w':World} {v:Value} {l:List Int} (h:TxtB w v l) (hb:Below w.heap.size w w'):TxtB w' v l:=by
 obtain ⟨a,cap,rfl,hc,hn,hi⟩:=h;refine ⟨a,cap,rfl,hc,hn,λi hlt => ?_⟩;obtain ⟨g,off,rfl,hg,h0⟩:=hi i hlt;exact ⟨g,off,rfl,Nat.lt_of_lt_of_le hg hb.size,(hb.cell (p:=⟨g,_,none⟩) hg).trans h0⟩
def RPrT (w:World) (st:Sts) (rl:List Rl) (e:Ending) (w':World):Prop:=Below w.heap.size w w' /\
 ((rightB st rl=false/\e = .returned (.tuple #[.slice none 0 0,.int .i64 1]))\/(rightB st rl=true/\∃tv,e = .returned (.tuple #[tv,.int .i64 0])/\TxtB w' tv (progT (st.map setL) rl)))
theorem bytes_of_str (w:World) (l:List Int) (h:Byt l) (cap:Nat) (hc:l.length<=cap):TxtB (Lib.bytesWorld w 5 (strOfNums l)) (.slice (some ⟨w.heap.size,0,none⟩) l.length cap) l:=by
 refine ⟨_,cap,rfl,hc,λh=>(by cases h),λj hj=>⟨w.heap.size,0,rfl,by rw [Lib.bytesWorld_size];omega,?_⟩⟩;rw [Nat.zero_add,Lib.bytesWorld_cell w 5 (strOfNums l) j (by rw [strOf_size];exact hj)]
 congr 2
 rw [strOf_toList];have hb:=h l[j] (List.getElem_mem hj);simp [List.getD,hj];omega
theorem below_bytes8 (w:World) (s:ByteArray):Below w.heap.size w (Lib.bytesWorld w 5 s):=⟨rfl,rfl,rfl,by rw [Lib.bytesWorld_size];omega,λk hk=>Lib.bytesWorld_at_old w 5 s k hk⟩
theorem txK_byt {g:Nd->List Int} {k:Int}:∀ {l:List Nd} {fst:Bool},(∀x∈l,Byt (g x))->Byt (txK g k fst l)
 | [],_,_=>λc hc=>(by cases hc)
 | x::l,fst,h=>λc hc=>by
  unfold txK at hc;rcases List.mem_append.1 hc with q | q
  · unfold barT at q
    split at q
    · simp at q;omega
    · cases q
  · rcases List.mem_append.1 q with q | q
    · unfold brT at q
      split at q
      · rcases List.mem_cons.1 q with q | q
        · omega
        · rcases List.mem_append.1 q with q | q
          · exact h x (by simp) c q
          · simp at q;omega
      · exact h x (by simp) c q
    · exact txK_byt (λy hy=>h y (by simp [hy])) c q
theorem txN_byt {S:List (List Int)} (hS:∀s∈S,Byt s):∀(f:Nat) (n:Nd),Byt (txN f S n)
 | f,n=>by
  have hh:Byt (headT S n):=by
   unfold headT
   split
   · rw [List.getD_eq_getElem?_getD];cases h:S[n.s.toNat]? with
     | none=>intro c hc;cases hc
     | some s=>exact hS s (List.mem_of_getElem? h)
   · intro c hc;cases hc
  cases f with
  | zero =>
   intro c hc;unfold txN at hc;rcases List.mem_append.1 hc with q | q
   · exact hh c q
   · exact signT_byt _ c q
  | succ f =>
   intro c hc;unfold txN at hc;rcases List.mem_append.1 hc with q | q
   · exact hh c q
   · rcases List.mem_append.1 q with q | q
     · exact txK_byt (λx _=>txN_byt hS f x) c q
     · exact signT_byt _ c q
theorem progT_byt {S:List (List Int)} (hS:∀s∈S,Byt s) (rl:List Rl):Byt (progT S rl):=by
 intro c hc;obtain ⟨x,_,hx⟩:=List.mem_flatMap.1 hc;unfold rlT at hx;rcases List.mem_append.1 hx with q | q
 · unfold kwT at q
   split at q<;>(simp at q;omega)
 · rcases List.mem_append.1 q with q | q
   · exact txN_byt hS 120 _ c q
   · rcases List.mem_cons.1 q with q | q
     · omega
     · rcases List.mem_append.1 q with q | q
       · exact txN_byt hS 120 _ c q
       · simp at q;omega
theorem rprint_any8 (st:Sts) (rl:List Rl) (hok:FewOk st rl) (sv rv:Value) (w:World) (h:SetSrc w sv st) (k:RulIn w rv rl) :
 Calls Tryz.prog 14 #[.agg #[sv,rv]] w λe w'=>RPrT w st rl e w':=by
 have HOK:Hid (FewOk st rl):=hok;have HSA:Hid (SetSrc w sv st):=h;have HRA:Hid (RulIn w rv rl):=k;obtain ⟨za,ca,rfl,hca,_⟩:=h;obtain ⟨ya,da,rfl,hda,_⟩:=k;have hri:=rright_any8 st rl hok (.slice za st.length ca) (.slice ya rl.length da) (w.alloc (.cells #[.slice za st.length ca,.slice ya rl.length da] 27)) (HSA.out.below (below_alloc _ _)) (HRA.out.below (below_alloc _ _));obtain ⟨q,hq⟩ :∃q,q=rightB st rl:=⟨_,rfl⟩;rw [<- hq] at hri;have HQ:Hid (q=rightB st rl):=hq;have hns70:=hok.1;have hnr70:=hok.2.1;obtain ⟨ns,hns⟩ :∃x,x=st.length:=⟨_,rfl⟩;obtain ⟨nr,hnr⟩ :∃x,x=rl.length:=⟨_,rfl⟩;rw [<- hns] at HSA hca hri hns70 ⊢;rw [<- hnr] at HRA hda hri hnr70 ⊢;have HNS:Hid (ns=st.length):=hns;have HNR:Hid (nr=rl.length):=hnr;have HB0:Hid (Below w.heap.size w (w.alloc (.cells #[.slice za ns ca,.slice ya nr da] 27))):=below_alloc _ _;have HEA:Hid ((w.alloc (.cells #[.slice za ns ca,.slice ya nr da] 27)).heap[w.heap.size]? = some (.cells #[.slice za ns ca,.slice ya nr da] 27 (0,0))):=heap_new' w _;clear hq hok hns hnr;cases hqv:q with
 | false =>
  rw [hqv] at hri;have HE:Hid (rightB st rl=false):=by show _=_;rw [<- HQ.out,hqv]
  clear hqv;go_enter Tryz.func14,Tryz.ntmps14
  go_wp2_with fail
  refine hri.mono ?_;rintro e w1 ⟨rfl,hB1⟩;clear hri;have hBB:=below_after HB0.out hB1;go_wp2
  go_ret2
  exact ⟨hBB,.inl ⟨HE.out,rfl⟩⟩
 | true =>
  rw [hqv] at hri;have HE:Hid (rightB st rl=true):=by show _=_;rw [<- HQ.out,hqv]
  obtain ⟨_,_,hsets,hmay⟩:=rightB_parts HE.out;have HSF:Hid (∀s∈st,Fits s):=λs hs=>isSetB_fits (hsets s hs);have HSI:Hid (∀x∈rl,SIn 120 st.length x.l/\SIn 120 st.length x.r):=(mayR_in (λx hx=>⟨(HOK.out.2.2.2 x hx).1.1,(HOK.out.2.2.2 x hx).2.1⟩) hmay).1;have HON:Hid (∀x∈rl,okN 120 0 0 x.l=true/\okN 120 0 0 x.r=true):=mayR_ok hmay;have HSL:Hid (∀s∈st.map setL,Byt s/\s.length<=69900):=λs hs=>by
   obtain ⟨l,hl,rfl⟩:=List.mem_map.1 hs;have h5:=HOK.out.2.2.1 l hl;have h6:=setL_len l;exact ⟨byt_of (setL_byt l),by omega⟩
  clear hqv hsets hmay;go_enter Tryz.func14,Tryz.ntmps14
  go_wp2_with fail
  refine hri.mono ?_;rintro e w1 ⟨rfl,hB1⟩;clear hri;have HB01:Hid (Below w.heap.size w w1):=below_after HB0.out hB1;have HE1:Hid (w1.heap[w.heap.size]? = some (.cells #[.slice za ns ca,.slice ya nr da] 27 (0,0))):=(hB1.block _ (by simp)).trans HEA.out;clear hB1;go_wp2
  go_loopw [5,6] (λx5 x wr=>∃(j:Nat) (cur:List Int) (str:ByteArray),j<=nr/\x = .int .i64 (j:Int)/\x5 = .string str/\Hid (str=strOfNums cur)/\Hid (progT (st.map setL) rl=cur++progT (st.map setL) (rl.drop j))/\Hid (cur.length<=j*450000000)/\wr.heap[w.heap.size]? = some (.cells #[.slice za ns ca,.slice ya nr da] 27 (0,0))/\Below w.heap.size w wr) (λ_ x _=>nr-(intOf x).toNat)
  case atStart=>exact ⟨0,[],_,Nat.zero_le _,rfl,rfl,(show _=_ by rfl),(show _=_ by rw [List.drop_zero];rfl),(show 0<=0*450000000 by omega),HE1.out,HB01.out⟩
  case round =>
   obtain ⟨j,cur,str,hj,rfl,rfl,HST,HTJ,HLJ,hEA,hB⟩:=hrel;have hlt:w.heap.size<wr.heap.size:=(Array.getElem?_eq_some_iff.1 hEA).1;have a0:wr.cell? ⟨w.heap.size,0,none⟩=some (.slice za ns ca):=cell_of_row _ _ 0 _ _ _ hEA;have a1:wr.cell? ⟨w.heap.size,1,none⟩=some (.slice ya nr da):=cell_of_row _ _ 1 _ _ _ hEA;have HEA':Hid (wr.heap[w.heap.size]? = some (.cells #[.slice za ns ca,.slice ya nr da] 27 (0,0))):=hEA;have hssz:str.size<=40000000000:=by rw [HST.out,str_size];have:=HLJ.out;omega
   clear hEA;by_cases hjl:j<nr
   · have hjs:j<rl.length:=by have:=HNR.out;omega
     obtain ⟨tl,htl⟩ :∃x,x=txN 120 (st.map setL) rl[j].l:=⟨_,rfl⟩;obtain ⟨tr,htr⟩ :∃x,x=txN 120 (st.map setL) rl[j].r:=⟨_,rfl⟩;obtain ⟨xl,hxl⟩ :∃x,x=strOfNums tl:=⟨_,rfl⟩;obtain ⟨xr,hxr⟩ :∃x,x=strOfNums tr:=⟨_,rfl⟩;obtain ⟨ga,oa,bb,lk,ls,la,ln,lca,rk,rs,ra,rn,rca,hbe,rfl,hga,⟨c0,c1,c2,c3,c4,c5,c6⟩,hcl,hcr⟩ :∃(ga oa:Nat) (bb:Bool) (lk ls:Int) (la:Option Addr) (ln lca:Nat) (rk rs:Int) (ra:Option Addr) (rn rca:Nat),bb=rl[j].b/\ya=some ⟨ga,oa,none⟩/\ga<wr.heap.size /\
      (wr.cell? ⟨ga,oa+j*7,none⟩=some (.bool bb)/\wr.cell? ⟨ga,oa+j*7+1,none⟩=some (.int .i64 lk)/\wr.cell? ⟨ga,oa+j*7+2,none⟩=some (.int .i64 ls)/\wr.cell? ⟨ga,oa+j*7+3,none⟩=some (.slice la ln lca)/\wr.cell? ⟨ga,oa+j*7+4,none⟩=some (.int .i64 rk)/\wr.cell? ⟨ga,oa+j*7+5,none⟩=some (.int .i64 rs)/\wr.cell? ⟨ga,oa+j*7+6,none⟩=some (.slice ra rn rca)) /\
      (∀W,Below wr.heap.size wr W->Calls Tryz.prog 28 #[.agg #[.int .i64 lk,.int .i64 ls,.slice la ln lca],.slice za ns ca] W λe w'=>e = .returned (.string xl)/\Below wr.heap.size wr w')/\(∀W,Below wr.heap.size wr W->Calls Tryz.prog 28 #[.agg #[.int .i64 rk,.int .i64 rs,.slice ra rn rca],.slice za ns ca] W λe w'=>e = .returned (.string xr)/\Below wr.heap.size wr w'):=by
      obtain ⟨a,ca',e1,_,hi⟩:=HRA.out.below hB;obtain ⟨ga,oa,zl,zr,rfl,hga,c0,c1,c2,c3,c4,c5,c6,c7,c8⟩:=hi j hjs;obtain ⟨x1,x2,rfl,_⟩:=c7.slice;obtain ⟨x3,x4,rfl,_⟩:=c8.slice;have hf:=HOK.out.2.2.2 _ (List.getElem_mem hjs);have hsi:=HSI.out _ (List.getElem_mem hjs);have hon:=HON.out _ (List.getElem_mem hjs);have e1':ya=some ⟨ga,oa,none⟩:=by simp at e1;exact e1.1
      have hto:∀W,Below wr.heap.size wr W->∀k,k<wr.heap.size->W.heap[k]? = wr.heap[k]? /\ k<W.heap.size:=λW hW k hk=>⟨hW.block k hk,Nat.lt_of_lt_of_le hk hW.size⟩;refine ⟨ga,oa,_,_,_,x1,_,x2,_,_,x3,_,x4,rfl,e1',hga,⟨c0,c1,c2,c3,c4,c5,c6⟩,λW hW => ?_,λW hW => ?_⟩
      · rw [hxl,htl];exact (text_any8 st HSF.out HOK.out.2.2.1 _ 120 rl[j].l _ 0 0 W hf.1.1 hon.1 hsi.1 hf.1.2 (HSA.out.in.below (below_after hB hW)) (c7.to (hto W hW))).mono λe w' hh=>⟨hh.1,below_after hW hh.2⟩
      · rw [hxr,htr];exact (text_any8 st HSF.out HOK.out.2.2.1 _ 120 rl[j].r _ 0 0 W hf.2.1 hon.2 hsi.2 hf.2.2 (HSA.out.in.below (below_after hB hW)) (c8.to (hto W hW))).mono λe w' hh=>⟨hh.1,below_after hW hh.2⟩
     have hj0:(0:Int)<=(j:Int):=by omega
     have hj1:(j:Int)<(nr:Int):=by omega
     have ed:rl.drop j=rl[j]::rl.drop (j+1):=List.drop_eq_getElem_cons hjs;have hf:=HOK.out.2.2.2 _ (List.getElem_mem hjs);have HL1:Hid (tl.length+3<=220000000):=by
      have:=txN_len (S:=st.map setL) (λs hs=>(HSL.out s hs).2) 120 rl[j].l;have:=hf.1.2;show _<=_;rw [htl];omega
     have HL2:Hid (tr.length+3<=220000000):=by
      have:=txN_len (S:=st.map setL) (λs hs=>(HSL.out s hs).2) 120 rl[j].r;have:=hf.2.2;show _<=_;rw [htr];omega
     have HTN:Hid (progT (st.map setL) rl=(cur++rlT bb tl tr)++progT (st.map setL) (rl.drop (j+1))):=by
      show _=_;rw [HTJ.out,ed,progT_cons,hbe,htl,htr,List.append_assoc]
     have hxlz:xl.size<=220000000:=by rw [hxl,str_size];have:=HL1.out;omega
     have hxrz:xr.size<=220000000:=by rw [hxr,str_size];have:=HL2.out;omega
     have HXL:Hid (xl=strOfNums tl):=hxl;have HXR:Hid (xr=strOfNums tr):=hxr;have HCL:Hid (∀W,Below wr.heap.size wr W->Calls Tryz.prog 28 #[.agg #[.int .i64 lk,.int .i64 ls,.slice la ln lca],.slice za ns ca] W λe w'=>e = .returned (.string xl)/\Below wr.heap.size wr w'):=hcl;have HCR:Hid (∀W,Below wr.heap.size wr W->Calls Tryz.prog 28 #[.agg #[.int .i64 rk,.int .i64 rs,.slice ra rn rca],.slice za ns ca] W λe w'=>e = .returned (.string xr)/\Below wr.heap.size wr w'):=hcr;have HKP:Hid (∀W,Below wr.heap.size wr W->W.cell? ⟨w.heap.size,0,none⟩=some (.slice za ns ca)/\W.cell? ⟨w.heap.size,1,none⟩=some (.slice (some ⟨ga,oa,none⟩) nr da)/\W.cell? ⟨ga,oa+j*7+1,none⟩=some (.int .i64 lk)/\W.cell? ⟨ga,oa+j*7+2,none⟩=some (.int .i64 ls)/\W.cell? ⟨ga,oa+j*7+3,none⟩=some (.slice la ln lca)/\W.cell? ⟨ga,oa+j*7+4,none⟩=some (.int .i64 rk)/\W.cell? ⟨ga,oa+j*7+5,none⟩=some (.int .i64 rs)/\W.cell? ⟨ga,oa+j*7+6,none⟩=some (.slice ra rn rca)):=λW hk=>⟨(hk.cell (p:=⟨_,_,none⟩) hlt).trans a0,(hk.cell (p:=⟨_,_,none⟩) hlt).trans a1,(hk.cell (p:=⟨ga,_,none⟩) hga).trans c1,(hk.cell (p:=⟨ga,_,none⟩) hga).trans c2,(hk.cell (p:=⟨ga,_,none⟩) hga).trans c3,(hk.cell (p:=⟨ga,_,none⟩) hga).trans c4,(hk.cell (p:=⟨ga,_,none⟩) hga).trans c5,(hk.cell (p:=⟨ga,_,none⟩) hga).trans c6⟩;have HCL1:Hid ( Calls Tryz.prog 28 #[.agg #[.int .i64 lk,.int .i64 ls,.slice la ln lca],.slice za ns ca] wr.drew λe w'=>e = .returned (.string xl)/\Below wr.heap.size wr w'):=HCL.out _ (Below.refl _ _).drew;clear hcl hcr ed hf hbe htl htr hxl hxr HTJ;cases hbb:bb with
     | true =>
      rw [hbb] at c0 HTN;have y1:¬9223372036854775807<str.size+6:=by omega
      have y2:¬9223372036854775807<str.size+6+xl.size:=by omega
      have y3:¬9223372036854775807<str.size+6+xl.size+1:=by omega
      have y4:¬9223372036854775807<str.size+6+xl.size+1+xr.size:=by omega
      have y5:¬9223372036854775807<str.size+6+xl.size+1+xr.size+2:=by omega
      have HNE:Hid (str++⟨#[98,114,101,97,107,32]⟩++xl++⟨#[47]⟩++xr++⟨#[59,10]⟩=strOfNums (cur++rlT true tl tr)):=by
       show _=_;rw [HST.out,HXL.out,HXR.out];apply ByteArray.ext;simp [strOfNums,rlT,kwT]
      obtain ⟨nst,hnst⟩ :∃x,x=str++⟨#[98,114,101,97,107,32]⟩++xl++⟨#[47]⟩++xr++⟨#[59,10]⟩:=⟨_,rfl⟩;have HNS:Hid (nst=strOfNums (cur++rlT true tl tr)):=by show _=_;rw [hnst];exact HNE.out
      have HLN:Hid ((cur++rlT true tl tr).length<=(j+1)*450000000):=by
       have:=rlT_len true tl tr;have:=HL1.out;have:=HL2.out;have:=HLJ.out;show _<=_;rw [List.length_append];omega
      clear HNE hbb;go_wp2
      go_region_held3 (λw'=>w'.cell? ⟨w.heap.size,0,none⟩=some (.slice za ns ca)/\w'.cell? ⟨w.heap.size,1,none⟩=some (.slice (some ⟨ga,oa,none⟩) nr da)/\w'.cell? ⟨ga,oa+j*7+1,none⟩=some (.int .i64 lk)/\w'.cell? ⟨ga,oa+j*7+2,none⟩=some (.int .i64 ls)/\w'.cell? ⟨ga,oa+j*7+3,none⟩=some (.slice la ln lca)/\w'.cell? ⟨ga,oa+j*7+4,none⟩=some (.int .i64 rk)/\w'.cell? ⟨ga,oa+j*7+5,none⟩=some (.int .i64 rs)/\w'.cell? ⟨ga,oa+j*7+6,none⟩=some (.slice ra rn rca)) (first | exact HKP.out _ hB4 | exact HKP.out _ hB3 | go_keep) (first | (go_at_call 28;with_reducible refine HCL1.out.mono ?_;rintro e w3 ⟨rfl,hB3⟩) | (go_at_call 28;with_reducible refine (HCR.out _ hB3).mono ?_;rintro e w4 ⟨rfl,hB4⟩))
      have HB4:Hid (Below w.heap.size w w4):=below_after hB hB4;have HE4:Hid (w4.heap[w.heap.size]? = some (.cells #[.slice za ns ca,.slice (some ⟨ga,oa,none⟩) nr da] 27 (0,0))):=(hB4.block _ hlt).trans HEA'.out;clear hB3 hB4;go_wp2
      try rw [<- hnst]
      clear hnst
      go_roundw
      case rel=>exact ⟨j+1,_,_,by omega,by go_num,rfl,HNS,HTN,HLN,HE4.out,HB4.out⟩
      case measure=>simp [intOf];omega
     | false =>
      rw [hbb] at c0 HTN;have y1:¬9223372036854775807<str.size+5:=by omega
      have y2:¬9223372036854775807<str.size+5+xl.size:=by omega
      have y3:¬9223372036854775807<str.size+5+xl.size+1:=by omega
      have y4:¬9223372036854775807<str.size+5+xl.size+1+xr.size:=by omega
      have y5:¬9223372036854775807<str.size+5+xl.size+1+xr.size+2:=by omega
      have HNE:Hid (str++⟨#[107,101,101,112,32]⟩++xl++⟨#[47]⟩++xr++⟨#[59,10]⟩=strOfNums (cur++rlT false tl tr)):=by
       show _=_;rw [HST.out,HXL.out,HXR.out];apply ByteArray.ext;simp [strOfNums,rlT,kwT]
      obtain ⟨nst,hnst⟩ :∃x,x=str++⟨#[107,101,101,112,32]⟩++xl++⟨#[47]⟩++xr++⟨#[59,10]⟩:=⟨_,rfl⟩;have HNS:Hid (nst=strOfNums (cur++rlT false tl tr)):=by show _=_;rw [hnst];exact HNE.out
      have HLN:Hid ((cur++rlT false tl tr).length<=(j+1)*450000000):=by
       have:=rlT_len false tl tr;have:=HL1.out;have:=HL2.out;have:=HLJ.out;show _<=_;rw [List.length_append];omega
      clear HNE hbb;go_wp2
      go_region_held3 (λw'=>w'.cell? ⟨w.heap.size,0,none⟩=some (.slice za ns ca)/\w'.cell? ⟨w.heap.size,1,none⟩=some (.slice (some ⟨ga,oa,none⟩) nr da)/\w'.cell? ⟨ga,oa+j*7+1,none⟩=some (.int .i64 lk)/\w'.cell? ⟨ga,oa+j*7+2,none⟩=some (.int .i64 ls)/\w'.cell? ⟨ga,oa+j*7+3,none⟩=some (.slice la ln lca)/\w'.cell? ⟨ga,oa+j*7+4,none⟩=some (.int .i64 rk)/\w'.cell? ⟨ga,oa+j*7+5,none⟩=some (.int .i64 rs)/\w'.cell? ⟨ga,oa+j*7+6,none⟩=some (.slice ra rn rca)) (first | exact HKP.out _ hB4 | exact HKP.out _ hB3 | go_keep) (first | (go_at_call 28;with_reducible refine HCL1.out.mono ?_;rintro e w3 ⟨rfl,hB3⟩) | (go_at_call 28;with_reducible refine (HCR.out _ hB3).mono ?_;rintro e w4 ⟨rfl,hB4⟩))
      have HB4:Hid (Below w.heap.size w w4):=below_after hB hB4;have HE4:Hid (w4.heap[w.heap.size]? = some (.cells #[.slice za ns ca,.slice (some ⟨ga,oa,none⟩) nr da] 27 (0,0))):=(hB4.block _ hlt).trans HEA'.out;clear hB3 hB4;go_wp2
      try rw [<- hnst]
      clear hnst
      go_roundw
      case rel=>exact ⟨j+1,_,_,by omega,by go_num,rfl,HNS,HTN,HLN,HE4.out,HB4.out⟩
      case measure=>simp [intOf];omega
   · have HTE:Hid (progT (st.map setL) rl=cur):=by
      show _=_;rw [HTJ.out,List.drop_eq_nil_of_le (by rw [<- HNR.out];omega)];show cur++[]=cur;simp
     have hcv:=Lib.run_convert_string_bytes (P:=Tryz.prog) wr 9 22 5 str (u := .string) Tryz.underlying9 Tryz.underlying22 Tryz.underlying5;have hB4:=below_bytes8 wr str;have hsz:str.size=cur.length:=by rw [HST.out,str_size]
     have HBY:Hid (Byt cur):=by rw [<- HTE.out];exact progT_byt (λs hs=>(HSL.out s hs).1) rl
     have HTX:Hid (TxtB (Lib.bytesWorld wr 5 str) (.slice (some ⟨wr.heap.size,0,none⟩) cur.length (grownCap wr str.size 0 5)) cur):=by
      have:=bytes_of_str wr cur HBY.out (grownCap wr str.size 0 5) (by rw [<- hsz];exact grownCap_ge _ _ _ _);rw [<- HST.out] at this;exact this
     obtain ⟨W4,hW4⟩ :∃x,x=Lib.bytesWorld wr 5 str:=⟨_,rfl⟩;rw [<- hW4] at hcv hB4 HTX;obtain ⟨cp,hcp⟩ :∃x,x=grownCap wr str.size 0 5:=⟨_,rfl⟩;rw [<- hcp] at hcv HTX;have HBE:Hid (Below w.heap.size w W4):=below_after hB hB4;have HSZ:Hid (str.size=cur.length):=hsz;clear hW4 hcp hB4 hsz;go_wp2
     go_ret2
     refine ⟨HBE.out,.inr ⟨HE.out,_,rfl,?_⟩⟩;rw [HTE.out,HSZ.out];exact HTX.out
theorem ascU_cons (p:Nat) (c:Int) (t:List Int):ascU p (c::t)=⟨c,p,1,false⟩::ascU (p+1) t:=rfl
theorem ascU_len:∀(p:Nat) (t:List Int),(ascU p t).length=t.length
 | _,[]=>rfl
 | p,c::t=>by rw [ascU_cons,List.length_cons,List.length_cons,ascU_len (p+1) t]
theorem sgn_asc (q:Int->Bool) (p:Nat) (c:Int) (t:List Int):sgn q (ascU p (c::t))=if q c=true then (some c,ascU (p+1) t) else (none,ascU p (c::t)):=by
 rw [ascU_cons,sgn_cons];simp [fitU]
theorem upC_fig (d:Nat) (h:d<16):figR (upC d)=true/\figV (upC d)=(d:Int):=by
 have key:∀d:Fin 16,figR (upC d.val)=true/\figV (upC d.val)=(d.val:Int):=by decide
 exact key ⟨d,h⟩
theorem figs_asc (rest:List Int):∀(k p:Nat) (ds:List Nat),ds.length<=k->(∀d∈ds,d<16) ->
 figsL k (ascU p (ds.map upC++125::rest))=ds.map upC/\figsD k (ascU p (ds.map upC++125::rest))=ascU (p+ds.length) (125::rest)
 | 0,p,[],_,_=>⟨rfl,rfl⟩
 | 0,p,d::ds,h,_=>by simp at h
 | k+1,p,[],_,_=>by
  have hf:fitU figR ⟨125,p,1,false⟩=false:=rfl;constructor
  · show (if fitU figR ⟨125,p,1,false⟩=true then _ else _)=_;rw [hf];rfl
  · show (if fitU figR ⟨125,p,1,false⟩=true then _ else _)=_;rw [hf];rfl
 | k+1,p,d::ds,h,hd=>by
  have hf:fitU figR ⟨upC d,p,1,false⟩=true:=by simp [fitU,(upC_fig d (hd d (by simp))).1]
  obtain ⟨i1,i2⟩:=figs_asc rest k (p+1) ds (by simpa using h) (λx hx=>hd x (by simp [hx]));constructor
  · show (if fitU figR ⟨upC d,p,1,false⟩=true then _ else _)=_;rw [if_pos hf];exact congrArg (upC d::·) i1
  · show (if fitU figR ⟨upC d,p,1,false⟩=true then _ else _)=_;rw [if_pos hf,List.length_cons,show p+(ds.length+1)=p+1+ds.length by omega];exact i2
theorem hexV_last (l:List Int) (c:Int):hexV (l++[c])=hexV l*16+figV c:=by simp [hexV]
theorem hexV_dig:∀(k n:Nat),n<16 ^ k->hexV ((digF k n).map upC)=(n:Int)
 | 0,n,h=>by simp at h;subst h;rfl
 | k+1,n,h=>by
  by_cases q:n<16
  · rw [digF_small q];show (0:Int)*16+figV (upC n)=_;rw [(upC_fig n q).2];omega
  · rw [digF_great (by omega),List.map_append];show hexV (_++[upC (n % 16)])=_;rw [hexV_last,hexV_dig k (n / 16) (by rw [Nat.pow_succ] at h;omega),(upC_fig (n % 16) (by omega)).2];omega
theorem digF_ne (k n:Nat):digF (k+1) n≠[]:=by
 by_cases q:n<16
 · rw [digF_small q];simp
 · rw [digF_great (by omega)];simp
theorem letL_br (p n:Nat) (hn:n<16 ^ 6) (rest:List Int):letL (ascU p (brL n++rest))=(some (n:Int),ascU (p+(brL n).length) rest):=by
 have e:brL n++rest=92::120::123::((digL n).map upC++125::rest):=by simp [brL]
 rw [e];have h1:sgn (isC 92) (ascU p (92::120::123::((digL n).map upC++125::rest)))=(some 92,ascU (p+1) (120::123::((digL n).map upC++125::rest))):=by rw [sgn_asc];rfl
 have h2:sgn (isC 120) (ascU (p+1) (120::123::((digL n).map upC++125::rest)))=(some 120,ascU (p+1+1) (123::((digL n).map upC++125::rest))):=by rw [sgn_asc];rfl
 have h3:sgn (isC 123) (ascU (p+1+1) (123::((digL n).map upC++125::rest)))=(some 123,ascU (p+1+1+1) ((digL n).map upC++125::rest)):=by rw [sgn_asc];rfl
 rw [letL_d h1 h2 h3];obtain ⟨f1,f2⟩:=figs_asc rest 6 (p+1+1+1) (digL n) (digF_len 6 n) (digL_lt n);unfold numL;rw [f1,f2,if_neg (by
  have:=digF_ne 5 n;cases hq:digL n with
  | nil=>exact absurd hq this
  | cons a b=>simp),sgn_asc,if_pos (by decide)]
 simp only;rw [show hexV ((digL n).map upC)=(n:Int) from hexV_dig 6 n hn]
 congr 2
 simp [brL];omega
theorem entL_rg (p:Nat) (r:Rg) (h0:0<=r.lo) (h1:r.lo<=r.hi) (h2:r.hi<=1114111) (c:Int) (hc:c≠45) (rest:List Int):entL (ascU p (rgL r++c::rest))=(some r,ascU (p+(rgL r).length) (c::rest)):=by
 have h66:(16 ^ 6:Nat)=16777216:=by decide
 have elo:((r.lo.toNat:Nat):Int)=r.lo:=by omega
 have ehi:((r.hi.toNat:Nat):Int)=r.hi:=by omega
 by_cases q:r.hi=r.lo
 · have e:rgL r=brL r.lo.toNat:=by unfold rgL;rw [if_pos q,List.append_nil]
   rw [e];have hl:=letL_br p r.lo.toNat (by omega) (c::rest);have hs:sgn (isC 45) (ascU (p+(brL r.lo.toNat).length) (c::rest))=(none,ascU (p+(brL r.lo.toNat).length) (c::rest)):=by
    rw [sgn_asc,if_neg (by simp [isC,hc])]
   rw [entL_b hl hs,elo];cases r;simp only at q ⊢;rw [q]
 · have e:rgL r++c::rest=brL r.lo.toNat++(45::(brL r.hi.toNat++c::rest)):=by unfold rgL;rw [if_neg q];simp
   have el:(rgL r).length=(brL r.lo.toNat).length+1+(brL r.hi.toNat).length:=by unfold rgL;rw [if_neg q];simp;omega
   rw [e];have hl:=letL_br p r.lo.toNat (by omega) (45::(brL r.hi.toNat++c::rest));have hs:sgn (isC 45) (ascU (p+(brL r.lo.toNat).length) (45::(brL r.hi.toNat++c::rest)))=(some 45,ascU (p+(brL r.lo.toNat).length+1) (brL r.hi.toNat++c::rest)):=by rw [sgn_asc];rfl
   have hl2:=letL_br (p+(brL r.lo.toNat).length+1) r.hi.toNat (by omega) (c::rest);rw [entL_d hl hs hl2,elo,ehi,el]
   congr 2
   omega
end Go.Proofs.YtfdjchnckjgapaaGreatDoor
