/-
  RefToks
-/
import Derived.Test.YtfdjchnckjgapaaGreatDoorZ36
import Derived.Test.YtfdjchnckjgapaaGreatDoorZ34
namespace Go.Proofs.YtfdjchnckjgapaaGreatDoor
set_option maxHeartbeats 8000000
set_option maxRecDepth 100000
open Go.RowKit Go.Shelf S1
set_option linter.unusedVariables false
theorem refDecode_nil (a:Option Addr) (cap:Nat) (w:World) :
 Calls Tryz.prog 39 #[.slice a 0 cap] w λe w'=>e = .returned (.slice none 0 0)/\w'=w:=by
 go_enter Tryz.func39,Tryz.ntmps39;go_wp2;refine wp_loop_rounds 1 ?_;rw [rounds_succ];go_wp2;go_ret;exact ⟨rfl,rfl⟩
theorem refDecode_any (zs:List Int) (hby:Byt zs) (hlen:zs.length<=10000) (a:Option Addr) (len cap:Nat) (w:World) (hI:BytesAt w.heap.size w (.slice a len cap) zs) :
 Calls Tryz.prog 39 #[.slice a len cap] w λe w'=>∃v us,e = .returned v/\Run zs 0 us zs.length/\w'.ownsRow w.heap.size 83 4 v us.length (cellsUs us)/\Below w.heap.size w w':=by
 rcases hI with ⟨a',cap',h1,rfl⟩ | ⟨b,off,cap',h1,h2,h3,h4⟩
 · obtain ⟨rfl,rfl,rfl⟩:a=a'/\len=0/\cap=cap':=by simpa using h1
   exact (refDecode_nil a cap w).mono λe w' h=>⟨_,[],h.1,rfl,by rw [h.2];exact World.ownsRow_nil _ _ _ _,by rw [h.2];exact Below.refl _ _⟩
 · rw [h1];exact S1.refDecode_core zs hby hlen b off cap' h2 w h3 h4
def RSets (w:World) (base:Nat) (l:List (Tok×Value)):Prop:=∀x∈l,∃s,Upto (hasR x.1.s) s 1114112/\w.ownsRow base 94 2 x.2 s.length (cellsRs s)
theorem RSets.below {w w':World} {base:Nat} {l:List (Tok×Value)} (h:RSets w base l) (hb:Below w.heap.size w w'):RSets w' base l:=λx hx=>by
 obtain ⟨s,h1,h3⟩:=h x hx;exact ⟨s,h1,World.ownsRow.kept h3 (grownR_below hb none) (by cases x.2.ownBlock<;>simp)⟩
theorem RSets.apart {w w':World} {base b2 n2:Nat} {v2:Value} {x2:List Value} {l:List (Tok×Value)} (h:RSets w base l) (k:w.ownsRow b2 54 4 v2 n2 x2) (hg:w.grownBy w' v2.ownBlock):RSets w' base l:=λx hx=>by
 obtain ⟨s,h1,h3⟩:=h x hx;exact ⟨s,h1,World.ownsRow.kept h3 hg (own_apart h3 k (by decide))⟩
theorem own_below {w w':World} {base e size n:Nat} {v:Value} {xs:List Value} (h:w.ownsRow base e size v n xs) (hb:Below w.heap.size w w'):w'.ownsRow base e size v n xs :=
 World.ownsRow.kept h (grownR_below hb none) (by cases v.ownBlock<;>simp)
theorem cell_lt {w:World} {a:Addr} {v:Value} (h:w.cell? a=some v):a.block<w.heap.size:=by
 rcases Nat.lt_or_ge a.block w.heap.size with q | q
 · exact q
 · simp [World.cell?,Array.getElem?_eq_none q] at h
theorem heap_drewN (w:World):∀k,(w.drewN k).heap=w.heap
 | 0=>rfl
 | k+1=>heap_drewN w k
theorem upto_zero:Upto (hasR []) [] 1114112:=⟨trivial,λx=>by simp [hasR]⟩
theorem TxtAt.below {R:Nat} {w w':World} {v:Value} {zs:List Int} (h:TxtAt R w v zs) (hb:Below R w w'):TxtAt R w' v zs:=by
 obtain ⟨a,cap,rfl,hc,hi⟩:=h;refine ⟨a,cap,rfl,hc,λi hlt => ?_⟩;obtain ⟨g,off,rfl,hg,h0⟩:=hi i hlt;exact ⟨g,off,rfl,hg,(hb.cell (p:=⟨g,_,none⟩) hg).trans h0⟩
def RTksT (w:World) (tr:TR) (e:Ending) (w':World):Prop :=
 (∃a x,tr=TR.bad a x/\e = .returned (.tuple #[.slice none 0 0,.int .i64 (a:Int),.int .i64 x])/\x≠0/\Below w.heap.size w w') \/
 (∃l v,tr=TR.good (l.map Prod.fst)/\e = .returned (.tuple #[v,.int .i64 0,.int .i64 0])/\w'.ownsRow w.heap.size 54 4 v l.length (cellsTs l)/\RSets w' w.heap.size l/\Below w.heap.size w w')
theorem refTokens_any (zs:List Int) (hby:Byt zs) (hz:zs.length<=10000) (us:List U) (hus:Run zs 0 us zs.length) (ta:Option Addr) (cap:Nat) (w:World) (hI:BytesAt w.heap.size w (.slice ta zs.length cap) zs) :
 Calls Tryz.prog 21 #[.slice ta zs.length cap] w λe w'=>RTksT w (toksL zs.length us) e w':=by
 obtain ⟨i0,hi0,hz0,hz1,hz2⟩:=info_parts Tryz.infoToken;have hd:=refDecode_any zs hby hz ta zs.length cap w hI;have hul:us.length<=10000:=by have:=Run.le hus (Nat.zero_le _);omega
 obtain ⟨tr,htr⟩ :∃tr,tr=toksL zs.length us:=⟨_,rfl⟩;rw [<- htr];have HTR:Hid (tr=toksF zs.length (us.length+1) us []):=htr;have HUS:Hid (Run zs 0 us zs.length):=hus;have HOK:Hid (Okay us):=Okay.of_run hus;have HI:Hid (BytesAt w.heap.size w (.slice ta zs.length cap) zs):=hI;have HRN:Hid (∀k,Runs zs (us.drop k)):=λk=>(show Runs zs us from ⟨0,hus⟩).of_suffix (List.drop_suffix k us);have hbig:decide (65536<(zs.length:Int))=false:=by simp;omega
 clear htr hus hI;go_enter Tryz.func21,Tryz.ntmps21
 go_wp2_with fail
 refine hd.mono ?_;rintro e w1 ⟨uv,us',rfl,hrun',hown,hB1⟩;obtain rfl:us'=us:=Run.unique hrun' HUS.out;have hs1:=hB1.size;have HU1:Hid (UnitsIn w1 uv us'):=units_of_row hown;obtain ⟨ua,uc,rfl,huc,_⟩:=units_of_row hown;have HTX:Hid (TxtAt w1.heap.size w1 (.slice ta zs.length cap) zs):=txt_of_bytes (HI.out.below hB1) hs1;have HB1:Hid (Below w.heap.size w w1):=hB1;have hbk:=refBlank_any us' hul HOK.out 0 (Nat.zero_le _) _ w1 HU1.out;rw [List.drop_zero] at hbk;have hle:=blankL_le false us';have HD0:Hid (us'.drop (us'.length-(blankL false us').length)=blankL false us'):=(suffix_drop (k:=0) (us:=us') (r:=blankL false us') (by rw [List.drop_zero];exact blankL_suffix false us')).1;clear hown hrun' hd hB1
 go_wp2_with fail
 refine hbk.mono ?_;rintro e w' ⟨rfl,rfl⟩;obtain ⟨w1,rfl⟩ :∃w1,w1=w':=⟨_,rfl⟩;go_wp2
 go_loopw [6,7] (λv xi wr=>∃(i k:Nat) (vs:List U) (l:List (Tok×Value)),i<=us'.length/\xi = .int .i64 i/\Hid (us'.drop i=blankL false vs)/\vs.length<k/\l.length+vs.length<=us'.length/\Hid (toksF zs.length k vs (l.map Prod.fst)=tr)/\wr.ownsRow w1.heap.size 54 4 v l.length (cellsTs l)/\RSets wr w1.heap.size l/\Below w1.heap.size w1 wr) (λ_ xi _=>us'.length-(intOf xi).toNat)
 case atStart=>exact ⟨_,us'.length+1,us',[],by omega,rfl,HD0,by omega,by simp,HTR.out.symm,World.ownsRow_nil _ _ _ _,(λx h=>(by cases h)),Below.refl _ _⟩
 case round =>
  obtain ⟨i,k,vs,l,hil,rfl,HDI,hk,hll,HEQ,ho,hso,hB⟩:=hrel;have hbs:=hB.size;have HO:Hid (wr.ownsRow w1.heap.size 54 4 _ l.length (cellsTs l)):=ho;have HSO:Hid (RSets wr w1.heap.size l):=hso;have HVR:Hid (UnitsIn wr (.slice ua us'.length uc) us'):=HU1.out.below hB;clear ho hso;obtain ⟨k,rfl⟩ :∃m,k=m+1:=⟨k-1,by omega⟩;have hbl:=blankL_le false vs;cases hd:us'.drop i with
  | nil =>
   have hie:i=us'.length:=by have:=congrArg List.length hd;simp at this;omega
   have HT:Hid (tokO zs.length (blankL false vs)=OR.good ⟨4,zs.length,[],[]⟩ []):=by show _=_;rw [<- HDI.out,hd];rfl
   have HE:Hid (tr=TR.good (l.map Prod.fst++[⟨4,zs.length,[],[]⟩])):=HEQ.out.symm.trans (toksF_end HT.out rfl);subst hie;have hid:decide ((us'.length:Int)<(us'.length:Int))=false:=by simp
   clear hd;have HO3:Hid ((wr.alloc (.cells #[.int .i64 4,.int .i64 (zs.length:Int),.string ⟨#[]⟩,.slice none 0 0] 54)).ownsRow w1.heap.size 54 4 _ l.length (cellsTs l)):=World.ownsRow.alloc HO.out _;have HSO3:Hid (RSets (wr.alloc (.cells #[.int .i64 4,.int .i64 (zs.length:Int),.string ⟨#[]⟩,.slice none 0 0] 54)) w1.heap.size l):=HSO.out.below ((Below.refl _ wr).alloc (Nat.le_refl _) _);have HN3:Hid _:=heap_new' wr (.cells #[.int .i64 4,.int .i64 (zs.length:Int),.string ⟨#[]⟩,.slice none 0 0] 54);have HFAR:Hid (∀j,Value.ownBlock u6=some j->w1.heap.size<=j):=λj e=>(World.ownsRow.lt HO3.out j e).1
   go_wp2_with (at_builtin;go_must (refine wpList_append_own _ rfl (.tmp 117) (.tmp 121) 44 rfl w1.heap.size 54 i0 (.agg #[.int .i64 0,.int .i64 0,.string ⟨#[]⟩,.slice none 0 0]) 4 56 Tryz.underlying44 hi0 hz0 hz1 hz2 rfl (by decide) _ _ _ rfl HO3.out ⟨wr.heap.size,0,none⟩ 1 1 (cellsT (⟨4,zs.length,[],[]⟩,.slice none 0 0)) rfl rfl (World.news_of_block HN3.out) (by simp [cellsT,Value.oneCell']) (by unfold maxLen;omega) (by omega) (by simp;omega) ?_);intro v' w6 hown' hgrow hnil)
   have hB6:Below w1.heap.size w1 w6:=(hB.alloc hbs _).grown hgrow (by simp;omega) HFAR.out;have hB06:Below w.heap.size w w6:=HB1.out.trans (hB6.mono hs1);have HOW:Hid (w6.ownsRow w.heap.size 54 4 v' (l++[((⟨4,zs.length,[],[]⟩:Tok),Value.slice none 0 0)]).length (cellsTs (l++[((⟨4,zs.length,[],[]⟩:Tok),Value.slice none 0 0)]))):=by
    show World.ownsRow _ _ _ _ _ _ _;rw [cellsTs_snoc];refine own_mono (by simpa using hown') hs1
   have HS6:Hid (RSets w6 w1.heap.size l):=HSO3.out.apart HO3.out hgrow
   go_ret3
   refine .inr ⟨l++[(⟨4,zs.length,[],[]⟩,.slice none 0 0)],v',by rw [HE.out];simp,rfl,HOW.out,λx hx => ?_,hB06⟩;rcases List.mem_append.1 hx with hx | hx
   · obtain ⟨s,h1,h2⟩:=HS6.out x hx;exact ⟨s,h1,own_mono h2 hs1⟩
   · obtain rfl:x=(⟨4,zs.length,[],[]⟩,.slice none 0 0):=by simpa using hx
     exact ⟨[],upto_zero,World.ownsRow_nil _ _ _ _⟩
  | cons u t =>
   obtain ⟨hlt,hdt,hl1,hl0,hmem⟩:=drop_step hd;have hoku:=HOK.out u hmem;obtain ⟨g,off,rfl,c0,c1,c3⟩:=HVR.out.get i hlt hd;have hk0:(0:Int)<=(i:Int):=by omega
   have hk1:(i:Int)<(us'.length:Int):=by omega
   have HD:Hid (us'.drop i=u::t):=hd;have HDT:Hid (us'.drop (i+1)=t):=hdt;have HVB:Hid (blankL false vs=u::t):=HDI.out.symm.trans hd;obtain ⟨ur,hur⟩ :∃ur,ur=u.r:=⟨_,rfl⟩;obtain ⟨up,hup⟩ :∃up,up=u.p:=⟨_,rfl⟩;rw [<- hur] at c0 hoku;rw [<- hup] at c1;have HUR:Hid (ur=u.r):=hur;have HUP:Hid (up=u.p):=hup;have hupz:up<zs.length:=by
    obtain ⟨p,hp⟩:=HRN.out i;rw [HD.out] at hp;have h1:u.p=p:=by rw [hp.2.1];rfl
    rw [hup,h1];exact hp.1
   clear hd hdt hl1 hl0 hmem hur hup;have hB2:Below w1.heap.size w1 (wr.alloc (.cells #[.int .i64 0,.int .i64 (up:Int),.string ⟨#[]⟩,.slice none 0 0] 54)):=hB.alloc hbs _;have HBR:Hid (Below wr.heap.size wr (wr.alloc (.cells #[.int .i64 0,.int .i64 (up:Int),.string ⟨#[]⟩,.slice none 0 0] 54))):=(Below.refl _ wr).alloc (Nat.le_refl _) _;cases hb:u.bad with
   | true =>
    rw [hb] at c3;have HT:Hid (tokO zs.length (blankL false vs)=OR.bad up 6):=by
     show _=_;rw [HVB.out,tokO_cons,HUP.out];simp [fitU,hb]
    have HE:Hid (tr=TR.bad up 6):=HEQ.out.symm.trans (toksF_bad HT.out);clear hoku;have d1:(wr.alloc (.cells #[.int .i64 0,.int .i64 (up:Int),.string ⟨#[]⟩,.slice none 0 0] 54)).cell? ⟨g,off+i*4+1,none⟩=some (.int .i64 (up:Int)):=(HBR.out.cell (p:=⟨g,_,none⟩) (cell_lt c1)).trans c1;have d3:(wr.alloc (.cells #[.int .i64 0,.int .i64 (up:Int),.string ⟨#[]⟩,.slice none 0 0] 54)).cell? ⟨g,off+i*4+3,none⟩=some (.bool true):=(HBR.out.cell (p:=⟨g,_,none⟩) (cell_lt c3)).trans c3;go_wp2
    go_quiet (fail)
    go_wp2
    go_ret3
    refine .inl ⟨up,6,HE.out,rfl,by decide,?_⟩;exact below_drewN' (HB1.out.trans (hB2.mono hs1)) _
   | false =>
    rw [hb] at c3;have d0:(wr.alloc (.cells #[.int .i64 0,.int .i64 (up:Int),.string ⟨#[]⟩,.slice none 0 0] 54)).cell? ⟨g,off+i*4,none⟩=some (.int .i64 ur):=(HBR.out.cell (p:=⟨g,_,none⟩) (cell_lt c0)).trans c0;have d1:(wr.alloc (.cells #[.int .i64 0,.int .i64 (up:Int),.string ⟨#[]⟩,.slice none 0 0] 54)).cell? ⟨g,off+i*4+1,none⟩=some (.int .i64 (up:Int)):=(HBR.out.cell (p:=⟨g,_,none⟩) (cell_lt c1)).trans c1;have d3:(wr.alloc (.cells #[.int .i64 0,.int .i64 (up:Int),.string ⟨#[]⟩,.slice none 0 0] 54)).cell? ⟨g,off+i*4+3,none⟩=some (.bool false):=(HBR.out.cell (p:=⟨g,_,none⟩) (cell_lt c3)).trans c3;have hlow:=λW=>refLower_any ur W;have HVA:Hid (UnitsIn (wr.alloc (.cells #[.int .i64 0,.int .i64 (up:Int),.string ⟨#[]⟩,.slice none 0 0] 54)) (.slice (some ⟨g,off,none⟩) us'.length uc) us'):=HVR.out.below HBR.out;have f1:fitU nameB u=nameB ur:=by rw [HUR.out];exact fit_eq (by rw [<- HUR.out];exact hoku.1) rfl
    cases hnb:nameB ur with
    | true =>
     rw [hnb] at hlow f1;have hupos:u.bad=false:=hb
     go_wp2_with fail
     refine (hlow _).mono ?_;rintro e w' ⟨rfl,rfl⟩;go_wp2;have HH:=heap_new' wr (.cells #[.int .i64 0,.int .i64 (up:Int),.string ⟨#[]⟩,.slice none 0 0] 54);obtain ⟨WA,hWA⟩ :∃WA,WA=wr.alloc (.cells #[.int .i64 0,.int .i64 (up:Int),.string ⟨#[]⟩,.slice none 0 0] 54):=⟨_,rfl⟩;have HSA:Hid (WA.heap.size=wr.heap.size+1):=by show _=_;rw [hWA];simp
     rw [<- hWA] at d0 d1 d3 HVA hB2 HBR HH ⊢;have HHA:Hid (WA.heap[wr.heap.size]? = some (.cells #[.int .i64 0,.int .i64 (up:Int),.string ⟨#[]⟩,.slice none 0 0] 54)):=HH;clear hWA HH d0 d1 d3 c0 c1 c3;obtain ⟨T,hT⟩ :∃T,T=wr.heap.size:=⟨_,rfl⟩;rw [<- hT] at HHA ⊢;have hTw:w1.heap.size<=T:=by omega
     have HT:Hid (T=wr.heap.size):=hT;clear hlow hT;obtain ⟨wo,rfl⟩ :∃wo:World,wo=wr:=⟨_,rfl⟩
     go_loopw [10] (λxk wi=>∃m:Nat,i+1<=m/\m<=us'.length/\xk = .int .i64 m/\Hid ((us'.drop m).dropWhile (fitU nameR)=t.dropWhile (fitU nameR))/\WA=wi) (λxk _=>us'.length-(intOf xk).toNat)
     case atStart=>exact ⟨i+1,Nat.le_refl _,by omega,by go_num,(by show _=_;rw [HDT.out]),rfl⟩
     case round =>
      obtain ⟨m,him,hml,rfl,HDW,rfl⟩:=hrel;have hgo:(∃u2 t2,us'.drop m=u2::t2/\m<us'.length/\nameR u2.r=true/\fitU nameR u2=true)\/(us'.drop m=t.dropWhile (fitU nameR)/\(m=us'.length\/∃u2 t2,us'.drop m=u2::t2/\m<us'.length/\nameR u2.r=false)):=by
       cases hdm:us'.drop m with
       | nil =>
        right
        have h1:=HDW.out;rw [hdm] at h1;exact ⟨h1,.inl (by have:=congrArg List.length hdm;simp at this;omega)⟩
       | cons u2 t2 =>
        obtain ⟨hlt2,_,_,_,hmem2⟩:=drop_step hdm;have hf2:fitU nameR u2=nameR u2.r:=fit_eq (HOK.out u2 hmem2).1 rfl;cases hq:nameR u2.r with
        | true=>exact .inl ⟨u2,t2,rfl,hlt2,hq,hf2.trans hq⟩
        | false =>
         right
         have h1:=HDW.out;rw [hdm,List.dropWhile_cons,hf2,hq] at h1;exact ⟨by simpa using h1,.inr ⟨u2,t2,rfl,hlt2,hq⟩⟩
      have hm0:(0:Int)<=(m:Int):=by omega
      rcases hgo with ⟨u2,t2,hdm,hlt2,hq,hf2⟩ | ⟨hdm,hend⟩
      · obtain ⟨g',off',eg,e0,_,_⟩:=HVA.out.get m hlt2 hdm;obtain ⟨rfl,rfl⟩:g=g'/\off=off':=by simpa using eg
        have hgs:=λW=>refGoes_any u2.r W;rw [hq] at hgs;have HDW2:Hid ((us'.drop (m+1)).dropWhile (fitU nameR)=t.dropWhile (fitU nameR)):=by
         show _=_;rw [<- HDW.out,hdm,(drop_step hdm).2.1,List.dropWhile_cons,hf2];rfl
        have hm1:(m:Int)<(us'.length:Int):=by omega
        clear hdm hq hf2 eg
        go_wp2_with (go_at_call 42;refine (hgs _).mono ?_;rintro e w' ⟨rfl,rfl⟩)
        go_roundw
        case rel=>exact ⟨m+1,by omega,by omega,by go_num,HDW2,trivial⟩
        case measure=>simp [intOf];omega
      · have HDM:Hid (us'.drop m=t.dropWhile (fitU nameR)):=hdm;clear hdm;have hsp:u::t=(u::t.takeWhile (fitU nameR))++t.dropWhile (fitU nameR):=by rw [List.cons_append,<- take_drop_while]
        have hrunU:Runs zs (u::t):=by rw [<- HD.out];exact HRN.out i
        have hrunD:Runs zs (t.dropWhile (fitU nameR)):=Runs.drop (a:=u::t.takeWhile (fitU nameR)) (by rw [<- hsp];exact hrunU);have hcut:=runs_cut (a:=u::t.takeWhile (fitU nameR)) (b:=t.dropWhile (fitU nameR)) (by rw [<- hsp];exact hrunU) (λv hv=>by
         rcases List.mem_cons.1 hv with rfl | hv
         · exact fit_name f1
         · exact fit_inName (takeWhile_all _ _ v hv))
        rw [<- hsp] at hcut;have hcut1:cutZ zs up (atL zs.length (t.dropWhile (fitU nameR)))=u.r::(t.takeWhile (fitU nameR)).map U.r:=by rw [HUP.out];exact hcut.1
        have hcut2:up<=atL zs.length (t.dropWhile (fitU nameR)):=by rw [HUP.out];exact hcut.2
        have hcut3:up<atL zs.length (t.dropWhile (fitU nameR)):=by
         rcases Nat.lt_or_ge up (atL zs.length (t.dropWhile (fitU nameR))) with q | q
         · exact q
         · have e:atL zs.length (t.dropWhile (fitU nameR))=up:=by omega
           rw [e] at hcut1;simp [cutZ] at hcut1
        have hcut4:=hrunD.at_le;have HTO:Hid (tokO zs.length (blankL false vs)=OR.good ⟨1,up,cutZ zs up (atL zs.length (t.dropWhile (fitU nameR))),[]⟩ (t.dropWhile (fitU nameR))):=by
         show _=_;rw [HVB.out,hcut1,HUP.out];exact tokO_name f1
        have hBB:Below w1.heap.size w1 (WA.setCell ⟨T,0,none⟩ (.int .i64 1)):=hB2.setCell (p:=⟨T,0,none⟩) hTw _;have hat:∀n,Calls Tryz.prog 43 #[.slice (some ⟨g,off,none⟩) us'.length uc,.int .i64 m] ((WA.setCell ⟨T,0,none⟩ (.int .i64 1)).drewN n) λe w'=>e = .returned (.int .i64 (atL zs.length (t.dropWhile (fitU nameR)):Int))/\∃k,w'=(WA.setCell ⟨T,0,none⟩ (.int .i64 1)).drewN k:=λn=>by
         have:=refAt_any zs hz us' hul HUS.out m hml _ ((WA.setCell ⟨T,0,none⟩ (.int .i64 1)).drewN n) ((HU1.out.below hBB).drewN n);rw [HDM.out] at this;exact this.mono λe w' ⟨h1,k,h2⟩=>⟨h1,n+k,by rw [h2,World.drewN_drewN]⟩
        obtain ⟨gz,oz,rfl,hzc,HTB⟩ :∃gz oz,ta=some ⟨gz,oz,none⟩/\zs.length<=cap/\Hid (∀n,TxtAt w1.heap.size ((WA.setCell ⟨T,0,none⟩ (.int .i64 1)).drewN n) (.slice ta zs.length cap) zs):=by
         obtain ⟨a',c',e,hcc,hcell⟩:=HTX.out
         injection e with e1 e2 e3
         obtain ⟨gz,oz,rfl,_⟩:=hcell 0 (by omega);exact ⟨gz,oz,e1,by omega,λn=>HTX.out.below (below_drewN' hBB n)⟩
        obtain ⟨q,hq⟩ :∃q,q=atL zs.length (t.dropWhile (fitU nameR)):=⟨_,rfl⟩;rw [<- hq] at hat HTO hcut3 hcut4;have hcv:∀n,(convert 22 9 (.slice (some ⟨gz,oz+up,none⟩) (q-up) (cap-up))).run Tryz.prog ((WA.setCell ⟨T,0,none⟩ (.int .i64 1)).drewN n) = .ok (.string (strOfNums (cutZ zs up q))) ((WA.setCell ⟨T,0,none⟩ (.int .i64 1)).drewN n):=λn =>
         ((HTB.out n).cut hcut4 _ _ (by omega) (λ_=>rfl)).conv
        have hne:¬(cap=up):=by omega
        have hne2:¬(cap-up=0):=by omega
        have hh1:(up:Int)<=(q:Int):=by omega
        have hh3:(q:Int)<=(cap:Int):=by omega
        have hh0:(0:Int)<=(up:Int):=by omega
        have HHB:Hid ((WA.setCell ⟨T,0,none⟩ (.int .i64 1)).heap[T]? = some (.cells #[.int .i64 1,.int .i64 (up:Int),.string ⟨#[]⟩,.slice none 0 0] 54)):=heap_set HHA.out _;have q0:WA.cell? ⟨T,0,none⟩=some (.int .i64 0):=cell_of_row _ _ 0 _ _ _ HHA.out;have g0:WA.frozen? ⟨T,0,none⟩=false:=frozen_of_row _ _ 0 _ _ HHA.out;have b1:(WA.setCell ⟨T,0,none⟩ (.int .i64 1)).cell? ⟨T,1,none⟩=some (.int .i64 (up:Int)):=cell_of_row _ _ 1 _ _ _ HHB.out;have b2:(WA.setCell ⟨T,0,none⟩ (.int .i64 1)).cell? ⟨T,2,none⟩=some (.string ⟨#[]⟩):=cell_of_row _ _ 2 _ _ _ HHB.out;have g2:(WA.setCell ⟨T,0,none⟩ (.int .i64 1)).frozen? ⟨T,2,none⟩=false:=frozen_of_row _ _ 2 _ _ HHB.out;have HQ:Hid (q=atL zs.length (t.dropWhile (fitU nameR))):=hq;obtain ⟨str,hstr⟩ :∃str,str=strOfNums (cutZ zs up q):=⟨_,rfl⟩;rw [<- hstr] at hcv;have HSTR:Hid (str=strOfNums (cutZ zs up q)):=hstr;have HX:Hid (∀k,(((WA.setCell ⟨T,0,none⟩ (.int .i64 1)).drewN k).setCell ⟨T,2,none⟩ (.string str)).heap[T]? = some (.cells #[.int .i64 1,.int .i64 (up:Int),.string str,.slice none 0 0] 54)):=λk=>heap_set (by have h:=HHB.out;rw [<- heap_drewN _ k] at h;exact h) _;have hx0:∀k,(((WA.setCell ⟨T,0,none⟩ (.int .i64 1)).drewN k).setCell ⟨T,2,none⟩ (.string str)).cell? ⟨T,0,none⟩=some (.int .i64 1):=λk=>cell_of_row _ _ 0 _ _ _ (HX.out k);have hx1:∀k,(((WA.setCell ⟨T,0,none⟩ (.int .i64 1)).drewN k).setCell ⟨T,2,none⟩ (.string str)).cell? ⟨T,1,none⟩=some (.int .i64 (up:Int)):=λk=>cell_of_row _ _ 1 _ _ _ (HX.out k);have hx2:∀k,(((WA.setCell ⟨T,0,none⟩ (.int .i64 1)).drewN k).setCell ⟨T,2,none⟩ (.string str)).cell? ⟨T,2,none⟩=some (.string str):=λk=>cell_of_row _ _ 2 _ _ _ (HX.out k);have hx3:∀k,(((WA.setCell ⟨T,0,none⟩ (.int .i64 1)).drewN k).setCell ⟨T,2,none⟩ (.string str)).cell? ⟨T,3,none⟩=some (.slice none 0 0):=λk=>cell_of_row _ _ 3 _ _ _ (HX.out k);have hBX:∀k,Below w1.heap.size w1 (((WA.setCell ⟨T,0,none⟩ (.int .i64 1)).drewN k).setCell ⟨T,2,none⟩ (.string str)):=λk=>(below_drewN' hBB k).setCell (p:=⟨T,2,none⟩) hTw _;have hcx:∀k,(convert 22 9 (.slice (some ⟨gz,oz+up,none⟩) (q-up) (cap-up))).run Tryz.prog (((WA.setCell ⟨T,0,none⟩ (.int .i64 1)).drewN k).setCell ⟨T,2,none⟩ (.string str)) = .ok (.string str) (((WA.setCell ⟨T,0,none⟩ (.int .i64 1)).drewN k).setCell ⟨T,2,none⟩ (.string str)):=λk=>by
         rw [hstr];exact ((HTX.out.below (by rw [<- hstr];exact hBX k)).cut hcut4 _ _ (by omega) (λ_=>rfl)).conv
        have hbn:∀n,((WA.setCell ⟨T,0,none⟩ (.int .i64 1)).drewN n).cell? ⟨T,1,none⟩=some (.int .i64 (up:Int)):=λn=>by rw [cell_drewN];exact b1
        clear hsp hrunU hrunD hcut hcut1 hcut2 hq hstr;have hBoX:∀k,Below wo.heap.size wo (((WA.setCell ⟨T,0,none⟩ (.int .i64 1)).drewN k).setCell ⟨T,2,none⟩ (.string str)):=λk=>(below_drewN' (HBR.out.setCell (p:=⟨T,0,none⟩) (Nat.le_of_eq HT.out.symm) _) k).setCell (p:=⟨T,2,none⟩) (Nat.le_of_eq HT.out.symm) _;rcases hend with rfl | ⟨u2,t2,hdm,hlt2,hq2⟩
        · have hid:decide ((us'.length:Int)<(us'.length:Int))=false:=by simp
          go_wp2
          go_region_held3 (λw'=>w'.cell? ⟨T,1,none⟩=some (.int .i64 (up:Int))/\(convert 22 9 (.slice (some ⟨gz,oz+up,none⟩) (q-up) (cap-up))).run Tryz.prog w' = .ok (.string str) w') (first | exact ⟨hbn 1,hcv 1⟩ | exact ⟨hbn 0,hcv 0⟩ | exact ⟨hbn _,hcv _⟩ | exact ⟨hx1 _,hcx _⟩) ((go_at_call 43;refine (hat 1).mono ?_;rintro e w' ⟨rfl,kk,rfl⟩))
          have hBX:=hBX kk;have hBoX:=hBoX kk;have HXT:Hid _:=HX.out kk;have HSX:Hid (RSets (((WA.setCell ⟨T,0,none⟩ (.int .i64 1)).drewN kk).setCell ⟨T,2,none⟩ (.string str)) w1.heap.size (l++[(⟨1,up,cutZ zs up q,[]⟩,.slice none 0 0)])):=λx hx=>by
           rcases List.mem_append.1 hx with hx | hx
           · exact HSO.out.below hBoX x hx
           · obtain rfl:x=(⟨1,up,cutZ zs up q,[]⟩,.slice none 0 0):=by simpa using hx
             exact ⟨[],upto_zero,World.ownsRow_nil _ _ _ _⟩
          obtain ⟨X,hX⟩ :∃X,X=((WA.setCell ⟨T,0,none⟩ (.int .i64 1)).drewN kk).setCell ⟨T,2,none⟩ (.string str):=⟨_,rfl⟩;rw [<- hX] at hBX hBoX HXT HSX ⊢;have HML:Hid (us'.length<=us'.length):=hml;have HMR:Hid (us'.drop us'.length=t.dropWhile (fitU nameR)):=HDM.out;have HRL:Hid ((t.dropWhile (fitU nameR)).length<=t.length):=dropWhile_le _ t;clear hX hx0 hx1 hx2 hx3 hcx hcv hbn b1 b2 g0 g2 q0 hat HX hh0 hh1 hh3 hne hne2;obtain ⟨R,hR⟩ :∃R,R=t.dropWhile (fitU nameR):=⟨_,rfl⟩;rw [<- hR] at HMR HRL HTO;clear hR;have x0:X.cell? ⟨T,0,none⟩=some (.int .i64 1):=cell_of_row _ _ 0 _ _ _ HXT.out;have x1:X.cell? ⟨T,1,none⟩=some (.int .i64 (up:Int)):=cell_of_row _ _ 1 _ _ _ HXT.out;have x2:X.cell? ⟨T,2,none⟩=some (.string str):=cell_of_row _ _ 2 _ _ _ HXT.out;have x3:X.cell? ⟨T,3,none⟩=some (Value.slice none 0 0):=cell_of_row _ _ 3 _ _ _ HXT.out;have HE:Hid (toksF zs.length k R ((l++[((⟨1,up,cutZ zs up q,[]⟩:Tok),Value.slice none 0 0)]).map Prod.fst)=tr):=by
           show _=_;rw [List.map_append];exact (toksF_on HTO.out (by exact (by decide:(1:Int)≠4))).symm.trans HEQ.out
          have HO2:X.ownsRow w1.heap.size 54 4 _ l.length (cellsTs l):=own_below HO.out hBoX;have HO3:Hid ((X.alloc (.cells #[.int .i64 1,.int .i64 (up:Int),.string str,Value.slice none 0 0] 54)).ownsRow w1.heap.size 54 4 _ l.length (cellsTs l)):=World.ownsRow.alloc HO2 _;have HS3:Hid (RSets (X.alloc (.cells #[.int .i64 1,.int .i64 (up:Int),.string str,Value.slice none 0 0] 54)) w1.heap.size (l++[((⟨1,up,cutZ zs up q,[]⟩:Tok),Value.slice none 0 0)])):=HSX.out.below ((Below.refl _ X).alloc (Nat.le_refl _) _);have HSZ:Hid (X.heap.size=X.heap.size):=by rfl
          have HN3:Hid ((X.alloc (.cells #[.int .i64 1,.int .i64 (up:Int),.string str,Value.slice none 0 0] 54)).heap[X.heap.size]? = some (.cells #[.int .i64 1,.int .i64 (up:Int),.string str,Value.slice none 0 0] 54)):=by show _=_;rw [<- HSZ.out];exact heap_new' X (.cells #[.int .i64 1,.int .i64 (up:Int),.string str,Value.slice none 0 0] 54)
          have HFAR:Hid (∀j,Value.ownBlock u6=some j->w1.heap.size<=j):=λj e=>(World.ownsRow.lt HO2 j e).1;have hXs:w1.heap.size<=X.heap.size:=by rw [<- HSZ.out];exact hBX.size
          have hbk:∀W,UnitsIn W (.slice (some ⟨g,off,none⟩) us'.length uc) us'->Calls Tryz.prog 40 #[.slice (some ⟨g,off,none⟩) us'.length uc,.int .i64 ((us'.length:Nat))] W λe w'=>e = .returned (.int .i64 ((us'.length-(blankL false R).length:Nat):Int))/\W=w':=λW h=>by
           have:=refBlank_any us' hul HOK.out us'.length HML.out _ W h;rw [HMR.out] at this;exact this.mono λe w' h=>⟨h.1,h.2.symm⟩
          have hsfx:blankL false R <:+ us'.drop us'.length:=by rw [HMR.out];exact blankL_suffix false _
          obtain ⟨hd2,hle2,hlt2'⟩:=suffix_drop hsfx;have hle2:=hle2 HML.out;have HD2:Hid (us'.drop (us'.length-(blankL false R).length)=blankL false R):=hd2;obtain ⟨n2,hn2⟩ :∃n2,n2=us'.length-(blankL false R).length:=⟨_,rfl⟩;rw [<- hn2] at hbk HD2 hle2 hlt2';have HVT:Hid (t.length+1<=vs.length):=by show _<=_;have h1:=hbl;rw [HVB.out,List.length_cons] at h1;exact h1
          have hbnd:R.length<k/\l.length+1+R.length<=us'.length:=by have h1:=HVT.out;have h2:=HRL.out;omega
          have HBND:Hid (R.length<k/\l.length+1+R.length<=us'.length):=hbnd;clear hsfx hd2 hn2 HO2 hbnd
          go_wp2_with (first | (at_builtin;go_must (refine wpList_append_own _ rfl (.tmp 110) (.tmp 112) 44 rfl w1.heap.size 54 i0 (.agg #[.int .i64 0,.int .i64 0,.string ⟨#[]⟩,.slice none 0 0]) 4 56 Tryz.underlying44 hi0 hz0 hz1 hz2 rfl (by decide) _ _ _ rfl HO3.out ⟨X.heap.size,0,none⟩ 1 1 [.int .i64 1,.int .i64 (up:Int),.string str,Value.slice none 0 0] rfl rfl (World.news_of_block HN3.out) (by simp [Value.oneCell']) (by unfold maxLen;omega) (by omega) (by simp;omega) ?_);intro v' w6 hown' hgrow hnil;have hB6:Below w1.heap.size w1 w6:=(hBX.alloc hBX.size _).grown hgrow (by simp;omega) HFAR.out;have HS6:Hid (RSets w6 w1.heap.size (l++[((⟨1,up,cutZ zs up q,[]⟩:Tok),Value.slice none 0 0)])):=HS3.out.apart HO3.out hgrow;have HV6:Hid (UnitsIn w6 (.slice (some ⟨g,off,none⟩) us'.length uc) us'):=HU1.out.below hB6;clear hgrow hnil) | (go_at_call 40;refine (hbk _ HV6.out).mono ?_;rintro e w' ⟨rfl,rfl⟩))
          go_roundw
          case rel=>exact ⟨n2,k,R,(l++[((⟨1,up,cutZ zs up q,[]⟩:Tok),Value.slice none 0 0)]),by omega,rfl,HD2,HBND.out.1,by have:=HBND.out.2;simp;omega,HE,by rw [cellsTs_snoc];simpa [cellsT,HSTR.out] using hown',HS6.out,hB6⟩
          case measure=>simp [intOf];omega
        · obtain ⟨g',off',eg,e0,_,_⟩:=HVA.out.get m hlt2 hdm;obtain ⟨rfl,rfl⟩:g=g'/\off=off':=by simpa using eg
          have hgs:∀W,Calls Tryz.prog 42 #[.int .i64 u2.r] W λe w'=>e = .returned (.bool false)/\W=w':=λW=>by
           have:=refGoes_any u2.r W;rw [hq2] at this;exact this.mono λe w' h=>⟨h.1,h.2.symm⟩
          have hm1:(m:Int)<(us'.length:Int):=by omega
          clear hdm hq2 eg
          go_wp2_with (go_at_call 42;refine (hgs _).mono ?_;rintro e w' ⟨rfl,rfl⟩)
          go_region_held3 (λw'=>w'.cell? ⟨T,1,none⟩=some (.int .i64 (up:Int))/\(convert 22 9 (.slice (some ⟨gz,oz+up,none⟩) (q-up) (cap-up))).run Tryz.prog w' = .ok (.string str) w') (first | exact ⟨hbn 1,hcv 1⟩ | exact ⟨hbn 0,hcv 0⟩ | exact ⟨hbn _,hcv _⟩ | exact ⟨hx1 _,hcx _⟩) ((go_at_call 43;refine (hat 1).mono ?_;rintro e w' ⟨rfl,kk,rfl⟩))
          have hBX:=hBX kk;have hBoX:=hBoX kk;have HXT:Hid _:=HX.out kk;have HSX:Hid (RSets (((WA.setCell ⟨T,0,none⟩ (.int .i64 1)).drewN kk).setCell ⟨T,2,none⟩ (.string str)) w1.heap.size (l++[(⟨1,up,cutZ zs up q,[]⟩,.slice none 0 0)])):=λx hx=>by
           rcases List.mem_append.1 hx with hx | hx
           · exact HSO.out.below hBoX x hx
           · obtain rfl:x=(⟨1,up,cutZ zs up q,[]⟩,.slice none 0 0):=by simpa using hx
             exact ⟨[],upto_zero,World.ownsRow_nil _ _ _ _⟩
          obtain ⟨X,hX⟩ :∃X,X=((WA.setCell ⟨T,0,none⟩ (.int .i64 1)).drewN kk).setCell ⟨T,2,none⟩ (.string str):=⟨_,rfl⟩;rw [<- hX] at hBX hBoX HXT HSX ⊢;have HML:Hid (m<=us'.length):=hml;have HMR:Hid (us'.drop m=t.dropWhile (fitU nameR)):=HDM.out;have HRL:Hid ((t.dropWhile (fitU nameR)).length<=t.length):=dropWhile_le _ t;clear hX hx0 hx1 hx2 hx3 hcx hcv hbn b1 b2 g0 g2 q0 hat HX hh0 hh1 hh3 hne hne2;obtain ⟨R,hR⟩ :∃R,R=t.dropWhile (fitU nameR):=⟨_,rfl⟩;rw [<- hR] at HMR HRL HTO;clear hR;have x0:X.cell? ⟨T,0,none⟩=some (.int .i64 1):=cell_of_row _ _ 0 _ _ _ HXT.out;have x1:X.cell? ⟨T,1,none⟩=some (.int .i64 (up:Int)):=cell_of_row _ _ 1 _ _ _ HXT.out;have x2:X.cell? ⟨T,2,none⟩=some (.string str):=cell_of_row _ _ 2 _ _ _ HXT.out;have x3:X.cell? ⟨T,3,none⟩=some (Value.slice none 0 0):=cell_of_row _ _ 3 _ _ _ HXT.out;have HE:Hid (toksF zs.length k R ((l++[((⟨1,up,cutZ zs up q,[]⟩:Tok),Value.slice none 0 0)]).map Prod.fst)=tr):=by
           show _=_;rw [List.map_append];exact (toksF_on HTO.out (by exact (by decide:(1:Int)≠4))).symm.trans HEQ.out
          have HO2:X.ownsRow w1.heap.size 54 4 _ l.length (cellsTs l):=own_below HO.out hBoX;have HO3:Hid ((X.alloc (.cells #[.int .i64 1,.int .i64 (up:Int),.string str,Value.slice none 0 0] 54)).ownsRow w1.heap.size 54 4 _ l.length (cellsTs l)):=World.ownsRow.alloc HO2 _;have HS3:Hid (RSets (X.alloc (.cells #[.int .i64 1,.int .i64 (up:Int),.string str,Value.slice none 0 0] 54)) w1.heap.size (l++[((⟨1,up,cutZ zs up q,[]⟩:Tok),Value.slice none 0 0)])):=HSX.out.below ((Below.refl _ X).alloc (Nat.le_refl _) _);have HSZ:Hid (X.heap.size=X.heap.size):=by rfl
          have HN3:Hid ((X.alloc (.cells #[.int .i64 1,.int .i64 (up:Int),.string str,Value.slice none 0 0] 54)).heap[X.heap.size]? = some (.cells #[.int .i64 1,.int .i64 (up:Int),.string str,Value.slice none 0 0] 54)):=by show _=_;rw [<- HSZ.out];exact heap_new' X (.cells #[.int .i64 1,.int .i64 (up:Int),.string str,Value.slice none 0 0] 54)
          have HFAR:Hid (∀j,Value.ownBlock u6=some j->w1.heap.size<=j):=λj e=>(World.ownsRow.lt HO2 j e).1;have hXs:w1.heap.size<=X.heap.size:=by rw [<- HSZ.out];exact hBX.size
          have hbk:∀W,UnitsIn W (.slice (some ⟨g,off,none⟩) us'.length uc) us'->Calls Tryz.prog 40 #[.slice (some ⟨g,off,none⟩) us'.length uc,.int .i64 ((m:Nat))] W λe w'=>e = .returned (.int .i64 ((us'.length-(blankL false R).length:Nat):Int))/\W=w':=λW h=>by
           have:=refBlank_any us' hul HOK.out m HML.out _ W h;rw [HMR.out] at this;exact this.mono λe w' h=>⟨h.1,h.2.symm⟩
          have hsfx:blankL false R <:+ us'.drop m:=by rw [HMR.out];exact blankL_suffix false _
          obtain ⟨hd2,hle2,hlt2'⟩:=suffix_drop hsfx;have hle2:=hle2 HML.out;have HD2:Hid (us'.drop (us'.length-(blankL false R).length)=blankL false R):=hd2;obtain ⟨n2,hn2⟩ :∃n2,n2=us'.length-(blankL false R).length:=⟨_,rfl⟩;rw [<- hn2] at hbk HD2 hle2 hlt2';have HVT:Hid (t.length+1<=vs.length):=by show _<=_;have h1:=hbl;rw [HVB.out,List.length_cons] at h1;exact h1
          have hbnd:R.length<k/\l.length+1+R.length<=us'.length:=by have h1:=HVT.out;have h2:=HRL.out;omega
          have HBND:Hid (R.length<k/\l.length+1+R.length<=us'.length):=hbnd;clear hsfx hd2 hn2 HO2 hbnd
          go_wp2_with (first | (at_builtin;go_must (refine wpList_append_own _ rfl (.tmp 110) (.tmp 112) 44 rfl w1.heap.size 54 i0 (.agg #[.int .i64 0,.int .i64 0,.string ⟨#[]⟩,.slice none 0 0]) 4 56 Tryz.underlying44 hi0 hz0 hz1 hz2 rfl (by decide) _ _ _ rfl HO3.out ⟨X.heap.size,0,none⟩ 1 1 [.int .i64 1,.int .i64 (up:Int),.string str,Value.slice none 0 0] rfl rfl (World.news_of_block HN3.out) (by simp [Value.oneCell']) (by unfold maxLen;omega) (by omega) (by simp;omega) ?_);intro v' w6 hown' hgrow hnil;have hB6:Below w1.heap.size w1 w6:=(hBX.alloc hBX.size _).grown hgrow (by simp;omega) HFAR.out;have HS6:Hid (RSets w6 w1.heap.size (l++[((⟨1,up,cutZ zs up q,[]⟩:Tok),Value.slice none 0 0)])):=HS3.out.apart HO3.out hgrow;have HV6:Hid (UnitsIn w6 (.slice (some ⟨g,off,none⟩) us'.length uc) us'):=HU1.out.below hB6;clear hgrow hnil) | (go_at_call 40;refine (hbk _ HV6.out).mono ?_;rintro e w' ⟨rfl,rfl⟩))
          go_roundw
          case rel=>exact ⟨n2,k,R,(l++[((⟨1,up,cutZ zs up q,[]⟩:Tok),Value.slice none 0 0)]),by omega,rfl,HD2,HBND.out.1,by have:=HBND.out.2;simp;omega,HE,by rw [cellsTs_snoc];simpa [cellsT,HSTR.out] using hown',HS6.out,hB6⟩
          case measure=>simp [intOf];omega
    | false =>
     rw [hnb] at hlow f1;have HF1:Hid (fitU nameB u=false):=f1;have HH:=heap_new' wr (.cells #[.int .i64 0,.int .i64 (up:Int),.string ⟨#[]⟩,.slice none 0 0] 54);cases q91:(ur==91) with
     | true =>
      obtain rfl:ur=91:=by simpa using q91
      have hset:=refSet_any zs us' hul HUS.out (i+1) hlt _ _ HVA.out;rw [HDT.out,show (((i+1:Nat)):Int)=(i:Int)+1 by omega] at hset;clear q91 hnb f1 hoku
      go_wp2_with fail
      refine (hlow _).mono ?_;rintro e w' ⟨rfl,rfl⟩;obtain ⟨WA,hWA⟩ :∃WA,WA=wr.alloc (.cells #[.int .i64 0,.int .i64 (up:Int),.string ⟨#[]⟩,.slice none 0 0] 54):=⟨_,rfl⟩;have HSA:Hid (WA.heap.size=wr.heap.size+1):=by show _=_;rw [hWA];simp
      go_wp2_with fail
      rw [<- hWA] at d0 d1 d3 HVA hB2 HBR HH hset ⊢;have HHA:Hid (WA.heap[wr.heap.size]? = some (.cells #[.int .i64 0,.int .i64 (up:Int),.string ⟨#[]⟩,.slice none 0 0] 54)):=HH;clear hWA HH d0 d1 d3 c0 c1 c3 hlow;obtain ⟨T,hT⟩ :∃T,T=wr.heap.size:=⟨_,rfl⟩;rw [<- hT] at HHA HSA ⊢;have hTw:w1.heap.size<=T:=by omega
      have HT:Hid (T=wr.heap.size):=hT;clear hT;refine hset.mono ?_;rintro e w2 (⟨r,x,hsf,hsr,rfl,hx,hBs⟩ | ⟨en,r,s,v,hsr,rfl,hup,hown,hBs⟩)
      · have HTO:Hid (tokO zs.length (blankL false vs)=OR.bad (atL zs.length r) x):=by
         show _=_;rw [HVB.out,tokO_cons,if_neg (by rw [HF1.out];simp),if_neg (by simp [fitU,hb,<- HUR.out,tokR]),if_pos (by simp [fitU,hb,<- HUR.out,isC]),hsr];rfl
        have HE:Hid (tr=TR.bad (atL zs.length r) x):=HEQ.out.symm.trans (toksF_bad HTO.out);have hdr:=suffix_drop (us:=us') (k:=i+1) (r:=r) (by rw [HDT.out];exact hsf);have hBw2:Below w1.heap.size w1 w2:=hB2.trans (hBs.mono (by have:=HSA.out;omega));have hat:=refAt_any zs hz us' hul HUS.out (us'.length-r.length) hdr.2.2 _ w2 (HU1.out.below hBw2);rw [hdr.1] at hat;obtain ⟨idx,hidx⟩ :∃idx,idx=us'.length-r.length:=⟨_,rfl⟩;rw [<- hidx] at hat ⊢;have hxn:(x != 0)=true:=by simpa using hx
        have HXN:Hid (x≠0):=hx;have hB02:Below w.heap.size w w2:=HB1.out.trans (hBw2.mono hs1);clear hset hidx hx hsr hsf hdr
        go_wp2_with fail
        refine hat.mono ?_;rintro e w' ⟨rfl,nd,rfl⟩;go_wp2
        go_ret3
        exact .inl ⟨_,x,HE.out,rfl,HXN.out,below_drewN' hB02 nd⟩
      · have HTO:Hid (tokO zs.length (blankL false vs)=OR.good ⟨3,up,[],en⟩ r):=by
         show _=_;rw [HVB.out,tokO_cons,if_neg (by rw [HF1.out];simp),if_neg (by simp [fitU,hb,<- HUR.out,tokR]),if_pos (by simp [fitU,hb,<- HUR.out,isC]),hsr,HUP.out];rfl
        have hsf:r <:+ t:=by
         have:=setF_suffix hsr;exact this
        have hsl:=setF_len hsr;have hdr:=suffix_drop (us:=us') (k:=i+1) (r:=r) (by rw [HDT.out];exact hsf);have hBw2:Below w1.heap.size w1 w2:=hB2.trans (hBs.mono (by have:=HSA.out;omega));obtain ⟨va,vc,rfl,_,_⟩:=rng_of_row hown;have hH2:w2.heap[T]? = some (.cells #[.int .i64 0,.int .i64 (up:Int),.string ⟨#[]⟩,.slice none 0 0] 54):=(hBs.block T (by have:=HSA.out;omega)).trans HHA.out;have hH3:(w2.setCell ⟨T,0,none⟩ (.int .i64 3)).heap[T]? = some (.cells #[.int .i64 3,.int .i64 (up:Int),.string ⟨#[]⟩,.slice none 0 0] 54):=heap_set hH2 _;have HXT:Hid (((w2.setCell ⟨T,0,none⟩ (.int .i64 3)).setCell ⟨T,3,none⟩ (.slice va s.length vc)).heap[T]? = some (.cells #[.int .i64 3,.int .i64 (up:Int),.string ⟨#[]⟩,.slice va s.length vc] 54)):=heap_set hH3 _;have q0:w2.cell? ⟨T,0,none⟩=some (.int .i64 0):=cell_of_row _ _ 0 _ _ _ hH2;have g0:w2.frozen? ⟨T,0,none⟩=false:=frozen_of_row _ _ 0 _ _ hH2;have q3:(w2.setCell ⟨T,0,none⟩ (.int .i64 3)).cell? ⟨T,3,none⟩=some (.slice none 0 0):=cell_of_row _ _ 3 _ _ _ hH3;have g3:(w2.setCell ⟨T,0,none⟩ (.int .i64 3)).frozen? ⟨T,3,none⟩=false:=frozen_of_row _ _ 3 _ _ hH3;have hBX:Below w1.heap.size w1 ((w2.setCell ⟨T,0,none⟩ (.int .i64 3)).setCell ⟨T,3,none⟩ (.slice va s.length vc)):=(hBw2.setCell (p:=⟨T,0,none⟩) hTw _).setCell (p:=⟨T,3,none⟩) hTw _;have hBoX:Below wr.heap.size wr ((w2.setCell ⟨T,0,none⟩ (.int .i64 3)).setCell ⟨T,3,none⟩ (.slice va s.length vc)):=((HBR.out.trans (hBs.mono (by have:=HSA.out;have:=HT.out;omega))).setCell (p:=⟨T,0,none⟩) (Nat.le_of_eq HT.out.symm) _).setCell (p:=⟨T,3,none⟩) (Nat.le_of_eq HT.out.symm) _;have HSX:Hid (RSets ((w2.setCell ⟨T,0,none⟩ (.int .i64 3)).setCell ⟨T,3,none⟩ (.slice va s.length vc)) w1.heap.size (l++[(⟨3,up,[],en⟩,.slice va s.length vc)])):=λx hx=>by
         rcases List.mem_append.1 hx with hx | hx
         · exact HSO.out.below hBoX x hx
         · obtain rfl:x=(⟨3,up,[],en⟩,.slice va s.length vc):=by simpa using hx
           have hTA:T<WA.heap.size:=by have:=HSA.out;omega
           exact ⟨s,hup,own_mono (own_kept (own_kept hown hTA (grownR_set _ _ _ _)) hTA (grownR_set _ _ _ _)) (by omega)⟩
        have HSTR:Hid ((⟨#[]⟩:ByteArray)=strOfNums []):=rfl;have HML:Hid (us'.length-r.length<=us'.length):=hdr.2.2;have HMR:Hid (us'.drop (us'.length-r.length)=r):=hdr.1;have HRL:Hid (r.length<=t.length):=Nat.le_of_lt hsl;have hMi:i+1<=us'.length-r.length:=hdr.2.1 hlt;obtain ⟨m,hm⟩ :∃m,m=us'.length-r.length:=⟨_,rfl⟩;rw [<- hm] at HML HMR hMi ⊢;clear hset hm hsr hsf hdr hown hup hH2 hH3 hsl;have x0:((w2.setCell ⟨T,0,none⟩ (.int .i64 3)).setCell ⟨T,3,none⟩ (.slice va s.length vc)).cell? ⟨T,0,none⟩=some (.int .i64 3):=cell_of_row _ _ 0 _ _ _ HXT.out;have x1:((w2.setCell ⟨T,0,none⟩ (.int .i64 3)).setCell ⟨T,3,none⟩ (.slice va s.length vc)).cell? ⟨T,1,none⟩=some (.int .i64 (up:Int)):=cell_of_row _ _ 1 _ _ _ HXT.out;have x2:((w2.setCell ⟨T,0,none⟩ (.int .i64 3)).setCell ⟨T,3,none⟩ (.slice va s.length vc)).cell? ⟨T,2,none⟩=some (.string ⟨#[]⟩):=cell_of_row _ _ 2 _ _ _ HXT.out;have x3:((w2.setCell ⟨T,0,none⟩ (.int .i64 3)).setCell ⟨T,3,none⟩ (.slice va s.length vc)).cell? ⟨T,3,none⟩=some (Value.slice va s.length vc):=cell_of_row _ _ 3 _ _ _ HXT.out;have HE:Hid (toksF zs.length k r ((l++[((⟨3,up,[],en⟩:Tok),Value.slice va s.length vc)]).map Prod.fst)=tr):=by
         show _=_;rw [List.map_append];exact (toksF_on HTO.out (by exact (by decide:(3:Int)≠4))).symm.trans HEQ.out
        have HO2:((w2.setCell ⟨T,0,none⟩ (.int .i64 3)).setCell ⟨T,3,none⟩ (.slice va s.length vc)).ownsRow w1.heap.size 54 4 _ l.length (cellsTs l):=own_below HO.out hBoX;have HO3:Hid ((((w2.setCell ⟨T,0,none⟩ (.int .i64 3)).setCell ⟨T,3,none⟩ (.slice va s.length vc)).alloc (.cells #[.int .i64 3,.int .i64 (up:Int),.string ⟨#[]⟩,Value.slice va s.length vc] 54)).ownsRow w1.heap.size 54 4 _ l.length (cellsTs l)):=World.ownsRow.alloc HO2 _;have HS3:Hid (RSets (((w2.setCell ⟨T,0,none⟩ (.int .i64 3)).setCell ⟨T,3,none⟩ (.slice va s.length vc)).alloc (.cells #[.int .i64 3,.int .i64 (up:Int),.string ⟨#[]⟩,Value.slice va s.length vc] 54)) w1.heap.size (l++[((⟨3,up,[],en⟩:Tok),Value.slice va s.length vc)])):=HSX.out.below ((Below.refl _ ((w2.setCell ⟨T,0,none⟩ (.int .i64 3)).setCell ⟨T,3,none⟩ (.slice va s.length vc))).alloc (Nat.le_refl _) _);have HSZ:Hid (((w2.setCell ⟨T,0,none⟩ (.int .i64 3)).setCell ⟨T,3,none⟩ (.slice va s.length vc)).heap.size=w2.heap.size):=by show _=_;simp [World.setCell]
        have HN3:Hid ((((w2.setCell ⟨T,0,none⟩ (.int .i64 3)).setCell ⟨T,3,none⟩ (.slice va s.length vc)).alloc (.cells #[.int .i64 3,.int .i64 (up:Int),.string ⟨#[]⟩,Value.slice va s.length vc] 54)).heap[w2.heap.size]? = some (.cells #[.int .i64 3,.int .i64 (up:Int),.string ⟨#[]⟩,Value.slice va s.length vc] 54)):=by show _=_;rw [<- HSZ.out];exact heap_new' ((w2.setCell ⟨T,0,none⟩ (.int .i64 3)).setCell ⟨T,3,none⟩ (.slice va s.length vc)) (.cells #[.int .i64 3,.int .i64 (up:Int),.string ⟨#[]⟩,Value.slice va s.length vc] 54)
        have HFAR:Hid (∀j,Value.ownBlock u6=some j->w1.heap.size<=j):=λj e=>(World.ownsRow.lt HO2 j e).1;have hXs:w1.heap.size<=w2.heap.size:=by rw [<- HSZ.out];exact hBX.size
        have hbk:∀W,UnitsIn W (.slice (some ⟨g,off,none⟩) us'.length uc) us'->Calls Tryz.prog 40 #[.slice (some ⟨g,off,none⟩) us'.length uc,.int .i64 ((m:Nat))] W λe w'=>e = .returned (.int .i64 ((us'.length-(blankL false r).length:Nat):Int))/\W=w':=λW h=>by
         have:=refBlank_any us' hul HOK.out m HML.out _ W h;rw [HMR.out] at this;exact this.mono λe w' h=>⟨h.1,h.2.symm⟩
        have hsfx:blankL false r <:+ us'.drop m:=by rw [HMR.out];exact blankL_suffix false _
        obtain ⟨hd2,hle2,hlt2'⟩:=suffix_drop hsfx;have hle2:=hle2 HML.out;have HD2:Hid (us'.drop (us'.length-(blankL false r).length)=blankL false r):=hd2;obtain ⟨n2,hn2⟩ :∃n2,n2=us'.length-(blankL false r).length:=⟨_,rfl⟩;rw [<- hn2] at hbk HD2 hle2 hlt2';have HVT:Hid (t.length+1<=vs.length):=by show _<=_;have h1:=hbl;rw [HVB.out,List.length_cons] at h1;exact h1
        have hbnd:r.length<k/\l.length+1+r.length<=us'.length:=by have h1:=HVT.out;have h2:=HRL.out;omega
        have HBND:Hid (r.length<k/\l.length+1+r.length<=us'.length):=hbnd;clear hsfx hd2 hn2 HO2 hbnd
        go_wp2_with (first | (at_builtin;go_must (refine wpList_append_own _ rfl (.tmp 110) (.tmp 112) 44 rfl w1.heap.size 54 i0 (.agg #[.int .i64 0,.int .i64 0,.string ⟨#[]⟩,.slice none 0 0]) 4 56 Tryz.underlying44 hi0 hz0 hz1 hz2 rfl (by decide) _ _ _ rfl HO3.out ⟨w2.heap.size,0,none⟩ 1 1 [.int .i64 3,.int .i64 (up:Int),.string ⟨#[]⟩,Value.slice va s.length vc] rfl rfl (World.news_of_block HN3.out) (by simp [Value.oneCell']) (by unfold maxLen;omega) (by omega) (by simp;omega) ?_);intro v' w6 hown' hgrow hnil;have hB6:Below w1.heap.size w1 w6:=(hBX.alloc hBX.size _).grown hgrow (by simp;omega) HFAR.out;have HS6:Hid (RSets w6 w1.heap.size (l++[((⟨3,up,[],en⟩:Tok),Value.slice va s.length vc)])):=HS3.out.apart HO3.out hgrow;have HV6:Hid (UnitsIn w6 (.slice (some ⟨g,off,none⟩) us'.length uc) us'):=HU1.out.below hB6;clear hgrow hnil) | (go_at_call 40;refine (hbk _ HV6.out).mono ?_;rintro e w' ⟨rfl,rfl⟩))
        go_roundw
        case rel=>exact ⟨n2,k,r,(l++[((⟨3,up,[],en⟩:Tok),Value.slice va s.length vc)]),by omega,rfl,HD2,HBND.out.1,by have:=HBND.out.2;simp;omega,HE,by rw [cellsTs_snoc];simpa [cellsT,HSTR.out] using hown',HS6.out,hB6⟩
        case measure=>simp [intOf];omega
     | false =>
      have hsg:=refSign_any ur (wr.alloc (.cells #[.int .i64 0,.int .i64 (up:Int),.string ⟨#[]⟩,.slice none 0 0] 54))
      go_wp2_with fail
      refine (hlow _).mono ?_;rintro e w' ⟨rfl,rfl⟩;obtain ⟨WA,hWA⟩ :∃WA,WA=wr.alloc (.cells #[.int .i64 0,.int .i64 (up:Int),.string ⟨#[]⟩,.slice none 0 0] 54):=⟨_,rfl⟩;have HSA:Hid (WA.heap.size=wr.heap.size+1):=by show _=_;rw [hWA];simp
      go_wp2_with fail
      rw [<- hWA] at d0 d1 d3 HVA hB2 HBR HH hsg ⊢;have HHA:Hid (WA.heap[wr.heap.size]? = some (.cells #[.int .i64 0,.int .i64 (up:Int),.string ⟨#[]⟩,.slice none 0 0] 54)):=HH;clear hWA HH d0 d3 c0 c1 c3 hlow;obtain ⟨T,hT⟩ :∃T,T=wr.heap.size:=⟨_,rfl⟩;rw [<- hT] at HHA HSA ⊢;have hTw:w1.heap.size<=T:=by omega
      have HT:Hid (T=wr.heap.size):=hT;clear hT;refine hsg.mono ?_;rintro e w2 ⟨rfl,hBs⟩;have hBw2:Below w1.heap.size w1 w2:=hB2.trans (hBs.mono (by have:=HSA.out;omega));have hs2:=hBs.size;cases htk:tokR ur with
      | true =>
       have hrange:38<=ur/\ur<=126:=by simp [tokR] at htk;omega
       have HTO:Hid (tokO zs.length (blankL false vs)=OR.good ⟨2,up,[ur],[]⟩ t):=by
        show _=_;rw [HVB.out,tokO_cons,if_neg (by rw [HF1.out];simp),if_pos (by simp [fitU,hb,<- HUR.out,htk]),HUP.out,HUR.out]
       have hw8:IntKind.u8.wrap ur=ur:=by rw [IntKind.wrap_u8];omega
       have hH2:w2.heap[T]? = some (.cells #[.int .i64 0,.int .i64 (up:Int),.string ⟨#[]⟩,.slice none 0 0] 54):=(hBs.block T (by have:=HSA.out;omega)).trans HHA.out;have hT2:T<w2.heap.size:=by have:=HSA.out;omega
       have hH3:(w2.setCell ⟨T,0,none⟩ (.int .i64 2)).heap[T]? = some (.cells #[.int .i64 2,.int .i64 (up:Int),.string ⟨#[]⟩,.slice none 0 0] 54):=heap_set hH2 _;have e3:(w2.setCell ⟨T,0,none⟩ (.int .i64 2)).heap.size=w2.heap.size:=by simp [World.setCell]
       have hH4:((w2.setCell ⟨T,0,none⟩ (.int .i64 2)).alloc (.cells #[.int .u8 ur] 5)).heap[T]? = some (.cells #[.int .i64 2,.int .i64 (up:Int),.string ⟨#[]⟩,.slice none 0 0] 54):=(Below.heap_alloc _ _ T (by rw [e3];exact hT2)).trans hH3;have hR4:((w2.setCell ⟨T,0,none⟩ (.int .i64 2)).alloc (.cells #[.int .u8 ur] 5)).heap[w2.heap.size]? = some (.cells #[.int .u8 ur] 5):=by rw [<- e3];exact heap_new' _ _
       obtain ⟨str,hstr⟩ :∃str,str=strOfNums [ur]:=⟨_,rfl⟩;have HSTR:Hid (str=strOfNums [ur]):=hstr;have hcv:(convert 22 9 (.slice (some ⟨w2.heap.size,0,none⟩) 1 1)).run Tryz.prog ((w2.setCell ⟨T,0,none⟩ (.int .i64 2)).alloc (.cells #[.int .u8 ur] 5)) = .ok (.string str) ((w2.setCell ⟨T,0,none⟩ (.int .i64 2)).alloc (.cells #[.int .u8 ur] 5)):=by
        rw [hstr];refine TxtAt.conv (R:=w2.heap.size+1) (l:=[ur]) ⟨_,1,rfl,Nat.le_refl _,λi hi=>⟨w2.heap.size,0,rfl,by omega,?_⟩⟩;obtain rfl:i=0:=by simpa using hi
        exact cell_of_row _ _ 0 _ _ _ hR4
       have q0:w2.cell? ⟨T,0,none⟩=some (.int .i64 0):=cell_of_row _ _ 0 _ _ _ hH2;have g0:w2.frozen? ⟨T,0,none⟩=false:=frozen_of_row _ _ 0 _ _ hH2;have q2:((w2.setCell ⟨T,0,none⟩ (.int .i64 2)).alloc (.cells #[.int .u8 ur] 5)).cell? ⟨T,2,none⟩=some (.string ⟨#[]⟩):=cell_of_row _ _ 2 _ _ _ hH4;have g2:((w2.setCell ⟨T,0,none⟩ (.int .i64 2)).alloc (.cells #[.int .u8 ur] 5)).frozen? ⟨T,2,none⟩=false:=frozen_of_row _ _ 2 _ _ hH4;have HXT:Hid ((((w2.setCell ⟨T,0,none⟩ (.int .i64 2)).setCell ⟨T,2,none⟩ (.string str)).alloc (.cells #[.int .u8 ur] 5)).heap[T]? = some (.cells #[.int .i64 2,.int .i64 (up:Int),.string str,.slice none 0 0] 54)):=(Below.heap_alloc _ _ T (by simp [World.setCell];exact hT2)).trans (heap_set hH3 _);have hBX:Below w1.heap.size w1 (((w2.setCell ⟨T,0,none⟩ (.int .i64 2)).setCell ⟨T,2,none⟩ (.string str)).alloc (.cells #[.int .u8 ur] 5)):=((hBw2.setCell (p:=⟨T,0,none⟩) hTw _).setCell (p:=⟨T,2,none⟩) hTw _).alloc (by simp [World.setCell];omega) _;have hBoX:Below wr.heap.size wr (((w2.setCell ⟨T,0,none⟩ (.int .i64 2)).setCell ⟨T,2,none⟩ (.string str)).alloc (.cells #[.int .u8 ur] 5)):=(((HBR.out.trans (hBs.mono (by have:=HSA.out;have:=HT.out;omega))).setCell (p:=⟨T,0,none⟩) (Nat.le_of_eq HT.out.symm) _).setCell (p:=⟨T,2,none⟩) (Nat.le_of_eq HT.out.symm) _).alloc (by simp [World.setCell];have:=HT.out;omega) _;have HSX:Hid (RSets (((w2.setCell ⟨T,0,none⟩ (.int .i64 2)).setCell ⟨T,2,none⟩ (.string str)).alloc (.cells #[.int .u8 ur] 5)) w1.heap.size (l++[(⟨2,up,[ur],[]⟩,.slice none 0 0)])):=λx hx=>by
        rcases List.mem_append.1 hx with hx | hx
        · exact HSO.out.below hBoX x hx
        · obtain rfl:x=(⟨2,up,[ur],[]⟩,.slice none 0 0):=by simpa using hx
          exact ⟨[],upto_zero,World.ownsRow_nil _ _ _ _⟩
       have HML:Hid (i+1<=us'.length):=hlt;have HMR:Hid (us'.drop (i+1)=t):=HDT.out;have HRL:Hid (t.length<=t.length):=Nat.le_refl _;clear hsg htk q91 f1 hnb hH2 hH3 hH4 hR4 hstr e3 d1;have x0:(((w2.setCell ⟨T,0,none⟩ (.int .i64 2)).setCell ⟨T,2,none⟩ (.string str)).alloc (.cells #[.int .u8 ur] 5)).cell? ⟨T,0,none⟩=some (.int .i64 2):=cell_of_row _ _ 0 _ _ _ HXT.out;have x1:(((w2.setCell ⟨T,0,none⟩ (.int .i64 2)).setCell ⟨T,2,none⟩ (.string str)).alloc (.cells #[.int .u8 ur] 5)).cell? ⟨T,1,none⟩=some (.int .i64 (up:Int)):=cell_of_row _ _ 1 _ _ _ HXT.out;have x2:(((w2.setCell ⟨T,0,none⟩ (.int .i64 2)).setCell ⟨T,2,none⟩ (.string str)).alloc (.cells #[.int .u8 ur] 5)).cell? ⟨T,2,none⟩=some (.string str):=cell_of_row _ _ 2 _ _ _ HXT.out;have x3:(((w2.setCell ⟨T,0,none⟩ (.int .i64 2)).setCell ⟨T,2,none⟩ (.string str)).alloc (.cells #[.int .u8 ur] 5)).cell? ⟨T,3,none⟩=some (Value.slice none 0 0):=cell_of_row _ _ 3 _ _ _ HXT.out;have HE:Hid (toksF zs.length k t ((l++[((⟨2,up,[ur],[]⟩:Tok),Value.slice none 0 0)]).map Prod.fst)=tr):=by
        show _=_;rw [List.map_append];exact (toksF_on HTO.out (by exact (by decide:(2:Int)≠4))).symm.trans HEQ.out
       have HO2:(((w2.setCell ⟨T,0,none⟩ (.int .i64 2)).setCell ⟨T,2,none⟩ (.string str)).alloc (.cells #[.int .u8 ur] 5)).ownsRow w1.heap.size 54 4 _ l.length (cellsTs l):=own_below HO.out hBoX;have HO3:Hid (((((w2.setCell ⟨T,0,none⟩ (.int .i64 2)).setCell ⟨T,2,none⟩ (.string str)).alloc (.cells #[.int .u8 ur] 5)).alloc (.cells #[.int .i64 2,.int .i64 (up:Int),.string str,Value.slice none 0 0] 54)).ownsRow w1.heap.size 54 4 _ l.length (cellsTs l)):=World.ownsRow.alloc HO2 _;have HS3:Hid (RSets ((((w2.setCell ⟨T,0,none⟩ (.int .i64 2)).setCell ⟨T,2,none⟩ (.string str)).alloc (.cells #[.int .u8 ur] 5)).alloc (.cells #[.int .i64 2,.int .i64 (up:Int),.string str,Value.slice none 0 0] 54)) w1.heap.size (l++[((⟨2,up,[ur],[]⟩:Tok),Value.slice none 0 0)])):=HSX.out.below ((Below.refl _ (((w2.setCell ⟨T,0,none⟩ (.int .i64 2)).setCell ⟨T,2,none⟩ (.string str)).alloc (.cells #[.int .u8 ur] 5))).alloc (Nat.le_refl _) _);have HSZ:Hid ((((w2.setCell ⟨T,0,none⟩ (.int .i64 2)).setCell ⟨T,2,none⟩ (.string str)).alloc (.cells #[.int .u8 ur] 5)).heap.size=(w2.heap.size+1)):=by show _=_;simp [World.setCell]
       have HN3:Hid (((((w2.setCell ⟨T,0,none⟩ (.int .i64 2)).setCell ⟨T,2,none⟩ (.string str)).alloc (.cells #[.int .u8 ur] 5)).alloc (.cells #[.int .i64 2,.int .i64 (up:Int),.string str,Value.slice none 0 0] 54)).heap[(w2.heap.size+1)]? = some (.cells #[.int .i64 2,.int .i64 (up:Int),.string str,Value.slice none 0 0] 54)):=by show _=_;rw [<- HSZ.out];exact heap_new' (((w2.setCell ⟨T,0,none⟩ (.int .i64 2)).setCell ⟨T,2,none⟩ (.string str)).alloc (.cells #[.int .u8 ur] 5)) (.cells #[.int .i64 2,.int .i64 (up:Int),.string str,Value.slice none 0 0] 54)
       have HFAR:Hid (∀j,Value.ownBlock u6=some j->w1.heap.size<=j):=λj e=>(World.ownsRow.lt HO2 j e).1;have hXs:w1.heap.size<=(w2.heap.size+1):=by rw [<- HSZ.out];exact hBX.size
       have hbk:∀W,UnitsIn W (.slice (some ⟨g,off,none⟩) us'.length uc) us'->Calls Tryz.prog 40 #[.slice (some ⟨g,off,none⟩) us'.length uc,.int .i64 ((i:Int)+1)] W λe w'=>e = .returned (.int .i64 ((us'.length-(blankL false t).length:Nat):Int))/\W=w':=λW h=>by
        have:=refBlank_any us' hul HOK.out (i+1) HML.out _ W h;rw [HMR.out] at this;rw [show ((((i+1):Nat)):Int)=(i:Int)+1 by omega] at this;exact this.mono λe w' h=>⟨h.1,h.2.symm⟩
       have hsfx:blankL false t <:+ us'.drop (i+1):=by rw [HMR.out];exact blankL_suffix false _
       obtain ⟨hd2,hle2,hlt2'⟩:=suffix_drop hsfx;have hle2:=hle2 HML.out;have HD2:Hid (us'.drop (us'.length-(blankL false t).length)=blankL false t):=hd2;obtain ⟨n2,hn2⟩ :∃n2,n2=us'.length-(blankL false t).length:=⟨_,rfl⟩;rw [<- hn2] at hbk HD2 hle2 hlt2';have HVT:Hid (t.length+1<=vs.length):=by show _<=_;have h1:=hbl;rw [HVB.out,List.length_cons] at h1;exact h1
       have hbnd:t.length<k/\l.length+1+t.length<=us'.length:=by have h1:=HVT.out;have h2:=HRL.out;omega
       have HBND:Hid (t.length<k/\l.length+1+t.length<=us'.length):=hbnd;clear hsfx hd2 hn2 HO2 hbnd
       go_wp2_with (first | (at_builtin;go_must (refine wpList_append_own _ rfl (.tmp 110) (.tmp 112) 44 rfl w1.heap.size 54 i0 (.agg #[.int .i64 0,.int .i64 0,.string ⟨#[]⟩,.slice none 0 0]) 4 56 Tryz.underlying44 hi0 hz0 hz1 hz2 rfl (by decide) _ _ _ rfl HO3.out ⟨(w2.heap.size+1),0,none⟩ 1 1 [.int .i64 2,.int .i64 (up:Int),.string str,Value.slice none 0 0] rfl rfl (World.news_of_block HN3.out) (by simp [Value.oneCell']) (by unfold maxLen;omega) (by omega) (by simp;omega) ?_);intro v' w6 hown' hgrow hnil;have hB6:Below w1.heap.size w1 w6:=(hBX.alloc hBX.size _).grown hgrow (by simp;omega) HFAR.out;have HS6:Hid (RSets w6 w1.heap.size (l++[((⟨2,up,[ur],[]⟩:Tok),Value.slice none 0 0)])):=HS3.out.apart HO3.out hgrow;have HV6:Hid (UnitsIn w6 (.slice (some ⟨g,off,none⟩) us'.length uc) us'):=HU1.out.below hB6;clear hgrow hnil) | (go_at_call 40;refine (hbk _ HV6.out).mono ?_;rintro e w' ⟨rfl,rfl⟩))
       go_roundw
       case rel=>exact ⟨n2,k,t,(l++[((⟨2,up,[ur],[]⟩:Tok),Value.slice none 0 0)]),by omega,rfl,HD2,HBND.out.1,by have:=HBND.out.2;simp;omega,HE,by rw [cellsTs_snoc];simpa [cellsT,HSTR.out] using hown',HS6.out,hB6⟩
       case measure=>simp [intOf];omega
      | false =>
       have HTO:Hid (tokO zs.length (blankL false vs)=OR.bad up 6):=by
        show _=_;rw [HVB.out,tokO_cons,if_neg (by rw [HF1.out];simp),if_neg (by simp [fitU,hb,<- HUR.out,htk]),if_neg (by simp [fitU,hb,<- HUR.out,isC,q91]),HUP.out]
       have HE:Hid (tr=TR.bad up 6):=HEQ.out.symm.trans (toksF_bad HTO.out);have k1:w2.cell? ⟨g,off+i*4+1,none⟩=some (.int .i64 (up:Int)):=(hBs.cell (p:=⟨g,_,none⟩) (cell_lt d1)).trans d1;have hB02:Below w.heap.size w w2:=HB1.out.trans (hBw2.mono hs1);clear hsg htk f1 hnb d1;go_wp2
       go_quiet (fail)
       go_wp2
       go_ret3
       exact .inl ⟨up,6,HE.out,rfl,by decide,below_drewN' hB02 _⟩
end Go.Proofs.YtfdjchnckjgapaaGreatDoor
