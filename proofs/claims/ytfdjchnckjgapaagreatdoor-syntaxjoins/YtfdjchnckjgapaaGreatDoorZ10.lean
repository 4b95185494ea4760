/-
  Toks Aw7 PlMath
-/
import Derived.Test.YtfdjchnckjgapaaGreatDoorZ09
import Derived.Lib.Hide
import Derived.Lib.SlBytesConst
namespace Go.Proofs.YtfdjchnckjgapaaGreatDoor
set_option maxHeartbeats 8000000
set_option maxRecDepth 100000
open Go.RowKit Go.Shelf S1
set_option linter.unusedVariables false
theorem setF_suffix {n:Nat}:∀ {k:Nat} {us r:List U} {acc l:List Rg},setF n k us acc=SR.good l r->r <:+ us
 | 0,us,r,acc,l,h=>by cases h
 | k+1,us,r,acc,l,h=>by
  cases h1:sgn (isC 93) us with
  | mk o s=>cases o with
   | some x =>
    rw [setF_end h1] at h;obtain ⟨e1,e2⟩:=Prod.mk.inj (Sum.inr.inj h);have:=sgn_suffix (isC 93) us;rw [h1] at this;rw [<- e2];exact this
   | none=>cases h2:entL us with
    | mk o2 r2=>cases o2 with
     | none=>rw [setF_stuck h1 h2] at h;cases h
     | some e =>
      cases h3:(decide (e.hi<e.lo)||decide (1114111<e.hi)) with
      | true=>rw [setF_arg h1 h2 h3] at h;cases h
      | false =>
       rw [setF_on h1 h2 h3] at h;have h4:=entL_suffix us;rw [h2] at h4;exact (setF_suffix h).trans h4
theorem blankL_suffix:∀(b:Bool) (us:List U),blankL b us <:+ us
 | _,[]=>by simp [blankL]
 | true,u::t=>by
  unfold blankL;have h1:=(blankL_suffix true t).trans (List.suffix_cons u t);have h2:=(blankL_suffix false t).trans (List.suffix_cons u t)
  repeat' split
  all_goals first | exact List.suffix_refl _ | exact h1 | exact h2
 | false,u::t=>by
  unfold blankL;have h1:=(blankL_suffix true t).trans (List.suffix_cons u t);have h2:=(blankL_suffix false t).trans (List.suffix_cons u t)
  repeat' split
  all_goals first | exact List.suffix_refl _ | exact h1 | exact h2
theorem tokO_suffix {n:Nat} {us r:List U} {t:Tok} (h:tokO n us=OR.good t r):r <:+ us:=by
 match us with
 | [] =>
  have h':OR.good ⟨4,n,[],[]⟩ []=OR.good t r:=h;obtain ⟨e1,e2⟩:=Prod.mk.inj (Sum.inr.inj h');rw [<- e2];exact List.suffix_refl _
 | u::t' =>
  rw [tokO_cons] at h
  split at h
  · obtain ⟨e1,e2⟩:=Prod.mk.inj (Sum.inr.inj h);rw [<- e2];exact (List.dropWhile_suffix _).trans (List.suffix_cons _ _)
  · split at h
    · obtain ⟨e1,e2⟩:=Prod.mk.inj (Sum.inr.inj h);rw [<- e2];exact List.suffix_cons _ _
    · split at h
      · cases h1:setF n (t'.length+1) t' [] with
        | inl x=>rw [h1] at h;cases h
        | inr x =>
         obtain ⟨l,s⟩:=x;rw [h1] at h;have h:=Prod.mk.inj (Sum.inr.inj h);rw [<- h.2];exact (setF_suffix h1).trans (List.suffix_cons _ _)
      · cases h
def cellsT (x:Tok×Value):List Value:=[.int .i64 x.1.k,.int .i64 (x.1.p:Int),.string (strOfNums x.1.t),x.2]
def cellsTs (l:List (Tok×Value)):List Value:=l.flatMap cellsT
theorem cellsTs_snoc (l:List (Tok×Value)) (x:Tok×Value):cellsTs (l++[x])=cellsTs l++cellsT x:=by simp [cellsTs]
def SetsOwn (w:World) (base:Nat) (l:List (Tok×Value)):Prop:=∀x∈l,∃s,Upto (hasR x.1.s) s 1114112/\s.length<=65536/\w.ownsRow base 94 2 x.2 s.length (cellsRs s)
theorem SetsOwn.kept {w w':World} {base R:Nat} {l:List (Tok×Value)} (h:SetsOwn w base l) (hb:R<base) (hg:w.grownBy w' (some R)):SetsOwn w' base l:=λx hx=>by
 obtain ⟨s,h1,h2,h3⟩:=h x hx;exact ⟨s,h1,h2,own_kept h3 hb hg⟩
theorem own_apart {w:World} {b1 b2 e1 e2 s1 s2 n1 n2:Nat} {v1 v2:Value} {x1 x2:List Value} (h:w.ownsRow b1 e1 s1 v1 n1 x1) (k:w.ownsRow b2 e2 s2 v2 n2 x2) (hne:e1≠e2):v1.ownBlock=none\/v1.ownBlock≠v2.ownBlock:=by
 rcases h.2 with ⟨rfl,_⟩ | ⟨g,cap,cur,rfl,hb,hg,_⟩
 · exact .inl rfl
 · right
   rcases k.2 with ⟨rfl,_⟩ | ⟨g',cap',cur',rfl,hb',hg',_⟩
   · simp [Value.ownBlock]
   · intro e;have e':g=g':=by simpa [Value.ownBlock] using e
     rw [e',hg'] at hg
     injection hg with hg
     injection hg with _ ht _
     exact hne ht.symm
theorem SetsOwn.apart {w w':World} {base b2 n2:Nat} {v2:Value} {x2:List Value} {l:List (Tok×Value)} (h:SetsOwn w base l) (k:w.ownsRow b2 54 4 v2 n2 x2) (hg:w.grownBy w' v2.ownBlock):SetsOwn w' base l:=λx hx=>by
 obtain ⟨s,h1,h2,h3⟩:=h x hx;exact ⟨s,h1,h2,World.ownsRow.kept h3 hg (own_apart h3 k (by decide))⟩
theorem Tryz.infoToken:(Tryz.prog.info? 54).map (λi=>(i.zero,i.size,i.bytes))=some (some (.agg #[.int .i64 0,.int .i64 0,.string ⟨#[]⟩,.slice none 0 0]),4,56):=by kernel_rfl
theorem cellsU_at:∀(us:List U) (i j:Nat) (h:i<us.length),j<4->(cellsUs us)[i*4+j]? = (cellsU us[i])[j]?
 | u::us,0,j,h,hj=>by
  have e:cellsUs (u::us)=cellsU u++cellsUs us:=rfl;rw [e,Nat.zero_mul,Nat.zero_add,List.getElem?_append_left (by simpa [cellsU] using hj)];rfl
 | u::us,i+1,j,h,hj=>by
  have e:cellsUs (u::us)=cellsU u++cellsUs us:=rfl;rw [e,List.getElem?_append_right (by simp [cellsU];omega)];have e2:(i+1)*4+j-(cellsU u).length=i*4+j:=by simp [cellsU];omega
  rw [e2,cellsU_at us i j (by simpa using h) hj];rfl
theorem uni_of_row {w:World} {base R:Nat} {v:Value} {us:List U} (h:w.ownsRow base 83 4 v us.length (cellsUs us)) (hR:w.heap.size<=R):UniAt R w v us:=by
 rcases h.2 with ⟨rfl,h0⟩ | ⟨g,cap,cur,rfl,hb,hg,hc,hm,hs,ht⟩
 · exact ⟨none,0,by rw [h0],by omega,λi hi=>by omega⟩
 · refine ⟨_,cap,rfl,hc,λi hi=>⟨g,0,rfl,by have:=(Array.getElem?_eq_some_iff.1 hg).1;omega,?_,?_,?_⟩⟩
   · have:=h.cells (g:=g) rfl (i*4+0) (.int .i64 us[i].r) (by rw [cellsU_at us i 0 hi (by omega)];rfl);rw [add_lit'] at this;simpa using this
   · have:=h.cells (g:=g) rfl (i*4+1) (.int .i64 (us[i].p:Int)) (by rw [cellsU_at us i 1 hi (by omega)];rfl);rw [add_lit'] at this;simpa [Nat.add_assoc] using this
   · have:=h.cells (g:=g) rfl (i*4+3) (.bool us[i].bad) (by rw [cellsU_at us i 3 hi (by omega)];rfl);rw [add_lit'] at this;simpa [Nat.add_assoc] using this
theorem txt_of_bytes {w:World} {n R:Nat} {v:Value} {zs:List Int} (h:BytesAt n w v zs) (hR:n<=R):TxtAt R w v zs:=by
 rcases h with ⟨a,cap,rfl,rfl⟩ | ⟨b,off,cap,rfl,hc,hb,hcell⟩
 · exact ⟨a,cap,rfl,Nat.zero_le _,λi hi=>by cases hi⟩
 · refine ⟨_,cap,rfl,hc,λi hi=>⟨b,off,rfl,by omega,?_⟩⟩;rw [hcell i hi,List.getElem?_eq_getElem hi];rfl
def TksT (w:World) (tr:TR) (e:Ending) (w':World):Prop :=
 (∃a x,tr=TR.bad a x/\e = .returned (.tuple #[.slice none 0 0,.int .i64 (a:Int),.int .i64 x])/\x≠0/\Below w.heap.size w w') \/
 (∃l v,tr=TR.good (l.map Prod.fst)/\l.length<=65537/\e = .returned (.tuple #[v,.int .i64 0,.int .i64 0])/\w'.ownsRow w.heap.size 54 4 v l.length (cellsTs l)/\SetsOwn w' w.heap.size l/\Below w.heap.size w w')
theorem tokens_any (zs:List Int) (hby:Byt zs) (hz:zs.length<=65536) (us:List U) (hus:Run zs 0 us zs.length) (ta:Option Addr) (cap:Nat) (w:World) (hsv:SynV w) (hI:BytesAt w.heap.size w (.slice ta zs.length cap) zs) :
 Calls Tryz.prog 18 #[.slice ta zs.length cap] w λe w'=>TksT w (toksL zs.length us) e w':=by
 obtain ⟨i0,hi0,hz0,hz1,hz2⟩:=info_parts Tryz.infoToken;have hd:=callsIn_wide.1 (decode_in 3 (Nat.le_refl _) _ ta zs.length cap rfl zs hby hz w hI);have hul:us.length<=65536:=by have:=Run.le hus (Nat.zero_le _);omega
 obtain ⟨tr,htr⟩ :∃tr,tr=toksL zs.length us:=⟨_,rfl⟩;rw [<- htr];have HTR:Hid (tr=toksF zs.length (us.length+1) us []):=htr;have HUS:Hid (Run zs 0 us zs.length):=hus;have HI:Hid (BytesAt w.heap.size w (.slice ta zs.length cap) zs):=hI;have hbig:decide (65536<(zs.length:Int))=false:=by simp;omega
 clear htr hus hI;go_enter Tryz.func18,Tryz.ntmps18
 go_wp2_with fail
 refine hd.mono ?_;rintro e w1 ⟨uv,us',rfl,hrun',hown,hB1⟩;obtain rfl:us'=us:=Run.unique hrun' HUS.out;have hs1:=hB1.size;obtain ⟨ua,uc,rfl,_,_⟩:=uni_of_row hown (Nat.le_refl _);have hui:UniAt w1.heap.size w1 (.slice ua us'.length uc) us':=uni_of_row hown (Nat.le_refl _);have hti:TxtAt w1.heap.size w1 (.slice ta zs.length cap) zs:=txt_of_bytes (HI.out.below hB1) hs1;have hsl:=hsv.lt;have hR:=heap_new' w1 (.cells #[.slice ta zs.length cap,.slice ua us'.length uc] 76);have hg1:w1.grownBy (w1.alloc (.cells #[.slice ta zs.length cap,.slice ua us'.length uc] 76)) (some w1.heap.size):=World.grownBy_alloc _ _ _;have hrd:Rd (w1.alloc (.cells #[.slice ta zs.length cap,.slice ua us'.length uc] 76)) w1.heap.size (.slice ta zs.length cap) us' :=
  ⟨_,cell_of_row _ _ 0 _ _ _ hR,cell_of_row _ _ 1 _ _ _ hR,frozen_of_row _ _ 1 _ _ hR,by simp,⟨(hsv.grown (grownR_below hB1 none) (by simp)).grown hg1 (by simp;omega),by omega⟩,hui.grown hg1⟩
 have htx:=hti.grown hg1;have hB2:Below w.heap.size w (w1.alloc (.cells #[.slice ta zs.length cap,.slice ua us'.length uc] 76)):=hB1.alloc hs1 _;have hsz:(w1.alloc (.cells #[.slice ta zs.length cap,.slice ua us'.length uc] 76)).heap.size=w1.heap.size+1:=by simp
 obtain ⟨R,hRe⟩ :∃R,R=w1.heap.size:=⟨_,rfl⟩;rw [<- hRe] at hrd htx hsz hs1;have HB2:Hid (Below w.heap.size w (w1.alloc (.cells #[.slice ta zs.length cap,.slice ua us'.length uc] 76))):=hB2;have HTX:Hid (TxtAt R (w1.alloc (.cells #[.slice ta zs.length cap,.slice ua us'.length uc] 76)) (.slice ta zs.length cap) zs):=htx;have HRD:Hid (Rd (w1.alloc (.cells #[.slice ta zs.length cap,.slice ua us'.length uc] 76)) R (.slice ta zs.length cap) us'):=hrd;clear hB2 htx hrd hti hui hg1 hR hown hrun' hd hsv HI hB1;go_wp2;obtain ⟨W0,hW0⟩ :∃W0,W0=w1.alloc (.cells #[.slice ta zs.length cap,.slice ua us'.length uc] 76):=⟨_,rfl⟩;rw [<- hW0] at HB2 HTX HRD hsz ⊢;rw [<- hRe];clear hW0 hRe
 go_loopw [6] (λv wr=>∃(k:Nat) (vs:List U) (l:List (Tok×Value)),vs.length<k/\l.length+vs.length<=us'.length/\Hid (toksF zs.length k vs (l.map Prod.fst)=tr)/\Rd wr R (.slice ta zs.length cap) vs/\Runs zs vs/\wr.ownsRow W0.heap.size 54 4 v l.length (cellsTs l)/\SetsOwn wr W0.heap.size l/\W0.grownBy wr (some R)) (λ_ wr=>leftN wr R)
 case atStart=>exact ⟨us'.length+1,us',[],by omega,by simp,HTR.out.symm,HRD.out,⟨0,HUS.out⟩,World.ownsRow_nil _ _ _ _,(λx h=>(by cases h)),World.grownBy.refl _ _⟩
 case round =>
  obtain ⟨k,vs,l,hk,hlen,HEQ,hr,hrn,ho,hso,hw⟩:=hrel;have hl0:=hr.left;have hws:=hw.size;have HO:Hid (wr.ownsRow W0.heap.size 54 4 _ l.length (cellsTs l)):=ho;have HSO:Hid (SetsOwn wr W0.heap.size l):=hso;clear ho hso;obtain ⟨k,rfl⟩ :∃m,k=m+1:=⟨k-1,by omega⟩;have htb:=takeBlanks_any wr R _ vs hr;have hbl:=blankL_le false vs;have hrn1:Runs zs (blankL false vs):=hrn.of_suffix (blankL_suffix false vs);obtain ⟨vb,hvb⟩ :∃vb,vb=blankL false vs:=⟨_,rfl⟩;rw [<- hvb] at htb hbl hrn1;have HVB:Hid (vb=blankL false vs):=hvb;clear hvb
  go_wp2_with fail
  refine htb.mono ?_;rintro e w2 ⟨rfl,hr2,hgb2⟩;have hg2:W0.grownBy w2 (some R):=hw.trans hgb2;have htk:=token_any zs vb R ta cap w2 hr2 (HTX.out.grown hg2) hz (by omega) hrn1;obtain ⟨od,hod⟩ :∃od,od=tokO zs.length vb:=⟨_,rfl⟩;rw [<- hod] at htk;have HOD:Hid (tokO zs.length (blankL false vs)=od):=by show _=_;rw [<- HVB.out];exact hod.symm
  have HOD2:Hid (tokO zs.length vb=od):=hod.symm;clear hod htb hr2
  go_wp2_with fail
  refine htk.mono ?_;rintro e w3 (⟨a,x,kk,pp,rfl,rfl,hx,hgb3⟩ | ⟨t,r,s,v,rfl,rfl,hup,hsl,hown,hr3,hgb3⟩)
  · have hg3:W0.grownBy w3 (some R):=hg2.trans hgb3;have HE:Hid (tr=TR.bad a x):=HEQ.out.symm.trans (toksF_bad HOD.out);have hx':(x != 0)=true:=by simpa using hx
    have HX:Hid (x≠0):=hx;clear htk hx;go_wp2
    go_ret3
    refine .inl ⟨a,x,HE.out,rfl,HX.out,?_⟩;exact (HB2.out.grown hg3 (by omega) (λj e=>by injection e with e;omega)).alloc (by have:=hg3.size;omega) _
  · have hg3:W0.grownBy w3 (some R):=hg2.trans hgb3;have hg23:wr.grownBy w3 (some R):=hgb2.trans hgb3;obtain ⟨va,vc,rfl,_,_⟩:=rng_of_row hown;have hown3:w3.ownsRow W0.heap.size 94 2 (.slice va s.length vc) s.length (cellsRs s):=own_mono hown hg2.size;have HUP:Hid (Upto (hasR t.s) s 1114112):=hup;have hlt:=tokO_len HOD2.out;have hsuf:=tokO_suffix HOD2.out;have hrn3:=hrn1.of_suffix hsuf;have hs3:=hg3.size;obtain ⟨cs,hcs⟩ :∃cs,cs=(#[.int .i64 t.k,.int .i64 (t.p:Int),.string (strOfNums t.t),.slice va s.length vc]:Array Value):=⟨_,rfl⟩;have hbR:R<W0.heap.size:=by omega
    have HO3:Hid (((w3.alloc (.cells #[.int .i64 t.k,.int .i64 (t.p:Int),.string (strOfNums t.t),.slice va s.length vc] 54)).alloc (.cells #[.int .i64 t.k,.int .i64 (t.p:Int),.string (strOfNums t.t),.slice va s.length vc] 54)).ownsRow W0.heap.size 54 4 _ l.length (cellsTs l)):=World.ownsRow.alloc (World.ownsRow.alloc (own_kept HO.out hbR hg23) _) _;have hso3:SetsOwn w3 W0.heap.size (l++[(t,.slice va s.length vc)]):=λy hy=>by
     rcases List.mem_append.1 hy with hy | hy
     · exact (HSO.out.kept hbR hg23) y hy
     · obtain rfl:y=(t,.slice va s.length vc):=by simpa using hy
       exact ⟨s,hup,hsl,hown3⟩
    have HSO3:Hid (SetsOwn ((w3.alloc (.cells #[.int .i64 t.k,.int .i64 (t.p:Int),.string (strOfNums t.t),.slice va s.length vc] 54)).alloc (.cells #[.int .i64 t.k,.int .i64 (t.p:Int),.string (strOfNums t.t),.slice va s.length vc] 54)) W0.heap.size (l++[(t,.slice va s.length vc)])) :=
     (hso3.kept hbR (World.grownBy_alloc _ _ _)).kept hbR (World.grownBy_alloc _ _ _)
    have HN3:Hid _:=heap_new' (w3.alloc (.cells #[.int .i64 t.k,.int .i64 (t.p:Int),.string (strOfNums t.t),.slice va s.length vc] 54)) (.cells #[.int .i64 t.k,.int .i64 (t.p:Int),.string (strOfNums t.t),.slice va s.length vc] 54);rw [World.size_alloc] at HN3;have hE3:=heap_new' w3 (.cells #[.int .i64 t.k,.int .i64 (t.p:Int),.string (strOfNums t.t),.slice va s.length vc] 54);have hE4:=(Below.heap_alloc (w3.alloc (.cells #[.int .i64 t.k,.int .i64 (t.p:Int),.string (strOfNums t.t),.slice va s.length vc] 54)) (.cells #[.int .i64 t.k,.int .i64 (t.p:Int),.string (strOfNums t.t),.slice va s.length vc] 54) w3.heap.size (by simp)).trans hE3;have HE4:Hid _:=hE4;have hg5:W0.grownBy ((w3.alloc (.cells #[.int .i64 t.k,.int .i64 (t.p:Int),.string (strOfNums t.t),.slice va s.length vc] 54)).alloc (.cells #[.int .i64 t.k,.int .i64 (t.p:Int),.string (strOfNums t.t),.slice va s.length vc] 54)) (some R):=(hg3.trans (World.grownBy_alloc _ _ _)).trans (World.grownBy_alloc _ _ _);have HR5:Hid (Rd ((w3.alloc (.cells #[.int .i64 t.k,.int .i64 (t.p:Int),.string (strOfNums t.t),.slice va s.length vc] 54)).alloc (.cells #[.int .i64 t.k,.int .i64 (t.p:Int),.string (strOfNums t.t),.slice va s.length vc] 54)) R (.slice ta zs.length cap) r):=(hr3.alloc _).alloc _;have hrow:∀j,Value.ownBlock u6=some j->W0.heap.size<=j/\j<w3.heap.size:=λj e=>⟨(World.ownsRow.lt (own_kept HO.out hbR hg23) j e).1,(World.ownsRow.lt (own_kept HO.out hbR hg23) j e).2⟩;have HROW:Hid (∀j,Value.ownBlock u6=some j->W0.heap.size<=j/\j<w3.heap.size):=hrow;have HLT:Hid ((t.k=4/\vb=[]/\t=⟨4,zs.length,[],[]⟩)\/(t.k≠4/\r.length<vb.length)):=hlt;clear htk hup hown hown3 hso3 hE3 hE4 hr3 hrow hlt hsuf HO hcs
    go_wp2_with (at_builtin;go_must (refine wpList_append_own _ rfl (.tmp 27) (.tmp 29) 44 rfl W0.heap.size 54 i0 (.agg #[.int .i64 0,.int .i64 0,.string ⟨#[]⟩,.slice none 0 0]) 4 56 Tryz.underlying44 hi0 hz0 hz1 hz2 rfl (by decide) _ _ _ rfl HO3.out ⟨w3.heap.size+1,0,none⟩ 1 1 (cellsT (t,.slice va s.length vc)) rfl rfl (World.news_of_block HN3.out) (by simp [cellsT,Value.oneCell']) (by unfold maxLen;omega) (by omega) (by simp;omega) ?_);intro v' w6 hown' hgrow hnil;refine Hid.out ?_)
    refine Lib.hid ?_;have hc6:w6.cell? ⟨w3.heap.size,0,none⟩=some (.int .i64 t.k):=hgrow.cell (cell_of_row _ _ 0 _ _ _ HE4.out) (λe=>by have:=HROW.out _ e.symm;simp at this);have hown6:w6.ownsRow W0.heap.size 54 4 v' (l++[(t,Value.slice va s.length vc)]).length (cellsTs (l++[(t,.slice va s.length vc)])):=by rw [cellsTs_snoc];simpa using hown'
    have hso6:=HSO3.out.apart HO3.out hgrow;have hr6:=HR5.out.far hgrow (λj e=>by have:=HROW.out j e;omega);have hg6:W0.grownBy w6 (some R):=hg5.andThen hgrow (λj e => .inl (HROW.out j e).1);have HOW6:Hid (w6.ownsRow W0.heap.size 54 4 v' (l++[(t,Value.slice va s.length vc)]).length (cellsTs (l++[(t,.slice va s.length vc)]))):=hown6;have HSO6:Hid (SetsOwn w6 W0.heap.size (l++[(t,.slice va s.length vc)])):=hso6;have HMP:Hid ((l++[(t,Value.slice va s.length vc)]).map Prod.fst=l.map Prod.fst++[t]):=by show _=_;simp
    clear hown6 hso6 hown' hgrow hnil HSO3 HN3 HE4 HR5 HO3 hg5 hg23;rcases HLT.out with ⟨hk4,_,_⟩ | ⟨hk4,hlt2⟩
    · have HE:Hid (tr=TR.good (l.map Prod.fst++[t])):=HEQ.out.symm.trans (toksF_end HOD.out hk4);have hk4':(t.k==4)=true:=by simpa using hk4
      clear hk4;go_wp2
      go_ret3
      refine .inr ⟨l++[(t,.slice va s.length vc)],v',by rw [HMP.out];exact HE.out,by simp;omega,rfl,own_mono HOW6.out (by omega),?_,HB2.out.grown hg6 (by omega) (λj e=>by injection e with e;omega)⟩;intro y hy;obtain ⟨s',h1,h2,h3⟩:=HSO6.out y hy;exact ⟨s',h1,h2,own_mono h3 (by omega)⟩
    · have HE:Hid (toksF zs.length k r ((l++[(t,Value.slice va s.length vc)]).map Prod.fst)=tr):=by show _=_;rw [HMP.out];exact (toksF_on HOD.out hk4).symm.trans HEQ.out
      have hk4':(t.k==4)=false:=by simpa using hk4
      clear hk4;go_wp2
      go_roundw
      case rel=>exact ⟨k,r,l++[(t,.slice va s.length vc)],by omega,by simp;omega,HE,hr6,hrn3,HOW6.out,HSO6.out,hg6⟩
      case measure=>rw [hr6.left,hl0];omega
theorem cellsTs_at:∀(l:List (Tok×Value)) (i j:Nat) (h:i<l.length),j<4->(cellsTs l)[i*4+j]? = (cellsT l[i])[j]?
 | u::us,0,j,h,hj=>by
  have e:cellsTs (u::us)=cellsT u++cellsTs us:=rfl;rw [e,Nat.zero_mul,Nat.zero_add,List.getElem?_append_left (by simpa [cellsT] using hj)];rfl
 | u::us,i+1,j,h,hj=>by
  have e:cellsTs (u::us)=cellsT u++cellsTs us:=rfl;rw [e,List.getElem?_append_right (by simp [cellsT];omega)];have e2:(i+1)*4+j-(cellsT u).length=i*4+j:=by simp [cellsT];omega
  rw [e2,cellsTs_at us i j (by simpa using h) hj];rfl
def ToksIn (w:World) (v:Value) (l:List (Tok×Value)):Prop :=
 ∃a cap,v = .slice a l.length cap/\l.length<=cap/\∀i,(h:i<l.length)->∃g off,a=some ⟨g,off,none⟩/\g<w.heap.size/\w.cell? ⟨g,off+i*4,none⟩=some (.int .i64 l[i].1.k)/\w.cell? ⟨g,off+i*4+1,none⟩=some (.int .i64 (l[i].1.p:Int)) /\
  w.cell? ⟨g,off+i*4+2,none⟩=some (.string (strOfNums l[i].1.t))/\w.cell? ⟨g,off+i*4+3,none⟩=some l[i].2
theorem toks_of_row {w:World} {base:Nat} {v:Value} {l:List (Tok×Value)} (h:w.ownsRow base 54 4 v l.length (cellsTs l)):ToksIn w v l:=by
 rcases h.2 with ⟨rfl,h0⟩ | ⟨g,cap,cur,rfl,hb,hg,hc,hm,hs,ht⟩
 · exact ⟨none,0,by rw [h0],by omega,λi hi=>by omega⟩
 · have key:∀i j x,i<l.length->(cellsTs l)[i*4+j]? = some x->w.cell? ⟨g,0+i*4+j,none⟩=some x:=λi j x hi hx=>by
    have:=h.cells (g:=g) rfl (i*4+j) x hx;rw [add_lit'] at this;rw [Nat.add_assoc];exact this
   refine ⟨_,cap,rfl,hc,λi hi=>⟨g,0,rfl,(Array.getElem?_eq_some_iff.1 hg).1,?_,?_,?_,?_⟩⟩
   · exact key i 0 _ hi (by rw [cellsTs_at l i 0 hi (by omega)];rfl)
   · exact key i 1 _ hi (by rw [cellsTs_at l i 1 hi (by omega)];rfl)
   · exact key i 2 _ hi (by rw [cellsTs_at l i 2 hi (by omega)];rfl)
   · exact key i 3 _ hi (by rw [cellsTs_at l i 3 hi (by omega)];rfl)
def ascU:Nat->List Int->List U
 | _,[]=>[]
 | p,c::t=>⟨c,p,1,false⟩::ascU (p+1) t
theorem unD_asc (c:Int) (t:List Int) (h0:0<=c) (h1:c<128):unD (c::t)=⟨c,1,false⟩:=by
 have er:candR (c::t)=c:=by simp [candR,h1]
 have en:candN (c::t)=1:=by simp [candN,h1]
 unfold unD;rw [er,en,if_pos ⟨(isR_iff _).2 (by omega),by simp [encR,h1]⟩]
theorem run_asc:∀(pre zs:List Int),(∀c∈zs,0<=c/\c<128)->Run (pre++zs) pre.length (ascU pre.length zs) (pre++zs).length
 | pre,[],h=>by show pre.length=_;simp
 | pre,c::t,h=>by
  have hc:=h c (by simp);have hu:unitAt (pre++c::t) pre.length=⟨c,pre.length,1,false⟩:=by
   unfold unitAt;rw [List.drop_left,unD_asc c t hc.1 hc.2]
  refine ⟨by simp,by rw [hu],?_⟩;have ih:=run_asc (pre++[c]) t (λd hd=>h d (by simp [hd]));simp only [List.append_assoc,List.singleton_append,List.length_append,List.length_singleton] at ih ⊢;simpa using ih
theorem run_ascii {zs:List Int} (h:∀c∈zs,0<=c/\c<128):Run zs 0 (ascU 0 zs) zs.length:=run_asc [] zs h
theorem bytes_lit {w:World} (zs:List Int) (t:TypeId) (fr:Nat×Nat) (cap:Nat) (hc:zs.length<=cap):BytesAt (w.heap.size+1) (w.alloc (.cells (zs.map (Value.int .u8)).toArray t fr)) (.slice (some ⟨w.heap.size,0,none⟩) zs.length cap) zs:=by
 refine .inr ⟨w.heap.size,0,cap,rfl,hc,by omega,λj hj => ?_⟩;rw [cell_of_row _ _ _ _ _ _ (heap_new' w _)];simp [hj]
end Go.Proofs.YtfdjchnckjgapaaGreatDoor
namespace Go.Proofs.YtfdjchnckjgapaaGreatDoor
open Go.RowKit S1
set_option linter.unusedVariables false
end Go.Proofs.YtfdjchnckjgapaaGreatDoor
