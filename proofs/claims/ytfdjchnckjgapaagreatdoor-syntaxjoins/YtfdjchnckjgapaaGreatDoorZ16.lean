/-
  NodW RegP
-/
import Derived.Test.YtfdjchnckjgapaaGreatDoorZ15
namespace Go.Proofs.YtfdjchnckjgapaaGreatDoor
set_option maxHeartbeats 4000000
set_option maxRecDepth 100000
open Go.RowKit Go.Shelf S1
set_option linter.unusedVariables false
def signT (k:Int):List Int:=if k=3 then [42] else if k=4 then [43] else if k=5 then [63] else []
theorem signOf_any (k:Int) (w:World):Calls Tryz.prog 64 #[.int .i64 k] w λe w'=>e = .returned (.string (strOfNums (signT k)))/\w=w':=by
 by_cases h3:k=3
 · subst h3;go_enter Tryz.func64,Tryz.ntmps64;go_wp2;go_ret;exact ⟨rfl,rfl⟩
 by_cases h4:k=4
 · subst h4;go_enter Tryz.func64,Tryz.ntmps64;go_wp2;go_ret;exact ⟨rfl,rfl⟩
 by_cases h5:k=5
 · subst h5;go_enter Tryz.func64,Tryz.ntmps64;go_wp2;go_ret;exact ⟨rfl,rfl⟩
 have e:signT k=[]:=by simp [signT,h3,h4,h5]
 rw [e];have k3:(k==3)=false:=by simpa using h3
 have k4:(k==4)=false:=by simpa using h4
 have k5:(k==5)=false:=by simpa using h5
 clear e h3 h4 h5;go_enter Tryz.func64,Tryz.ntmps64;go_wp2;go_ret;exact ⟨rfl,rfl⟩
theorem signT_some {k:Int} (h:signK k=true):(strOfNums (signT k)).toList.isEmpty=false:=by
 simp only [signK,Bool.or_eq_true,beq_iff_eq] at h;rcases h with (rfl | rfl) | rfl<;>simp [strL,signT]
theorem signT_none {k:Int} (h:signK k=false):signT k=[]:=by
 simp only [signK,Bool.or_eq_false_iff,beq_eq_false_iff_ne] at h;simp [signT,h.1.1,h.1.2,h.2]
theorem signs_any (Q:Nat->Prop) (c:Nat) (hc3:c<=3) (n:Nd) (z:Value) (w:World) (hq:∀k,Q k->k<w.heap.size) (hz:KdX Q w z n.kids) (hc:Chain c n) :
 Calls Tryz.prog 211 #[ndV n z] w λe w'=>e = .returned (.int .i64 (c:Int))/\Below w.heap.size w w':=by
 obtain ⟨za,zc,rfl,_⟩:=hz.slice;unfold ndV;have HB0:Hid (Below w.heap.size w (w.alloc (.cells #[.int .i64 n.k,.int .i64 n.s,.slice za n.kids.length zc] 39))):=below_alloc _ _;have HE0:Hid ((w.alloc (.cells #[.int .i64 n.k,.int .i64 n.s,.slice za n.kids.length zc] 39)).heap[w.heap.size]? = some (.cells #[.int .i64 n.k,.int .i64 n.s,.slice za n.kids.length zc] 39 (0,0))):=heap_new' _ _;have HZ:Hid (KdX Q w (.slice za n.kids.length zc) n.kids):=hz;have HQ:Hid (∀k,Q k->k<w.heap.size):=hq;have HC:Hid (Chain c n):=hc;clear hz hq hc;go_enter Tryz.func211,Tryz.ntmps211;go_wp2
 go_loopw [3] (λx wr=>∃(j:Nat) (m:Nd) (a:Option Addr) (cp:Nat),j<=c/\x = .int .i64 (j:Int)/\Hid (Chain (c-j) m)/\wr.heap[w.heap.size]? = some (.cells #[.int .i64 m.k,.int .i64 m.s,.slice a m.kids.length cp] 39 (0,0))/\Hid (KdX Q w (.slice a m.kids.length cp) m.kids)/\Below w.heap.size w wr) (λx _=>4-(intOf x).toNat)
 case atStart=>exact ⟨0,n,za,zc,Nat.zero_le _,rfl,HC,HE0.out,HZ,HB0.out⟩
 case round =>
  obtain ⟨j,m,a,cp,hj,rfl,HCm,hE,HZm,hB⟩:=hrel;have hlt:w.heap.size<wr.heap.size:=(Array.getElem?_eq_some_iff.1 hE).1;have d0:wr.cell? ⟨w.heap.size,0,none⟩=some (.int .i64 m.k):=cell_of_row _ _ 0 _ _ _ hE;have f0:wr.frozen? ⟨w.heap.size,0,none⟩=false:=frozen_of_row _ _ 0 _ _ hE;have d1:wr.cell? ⟨w.heap.size,1,none⟩=some (.int .i64 m.s):=cell_of_row _ _ 1 _ _ _ hE;have f1:wr.frozen? ⟨w.heap.size,1,none⟩=false:=frozen_of_row _ _ 1 _ _ hE;have d2:wr.cell? ⟨w.heap.size,2,none⟩=some (.slice a m.kids.length cp):=cell_of_row _ _ 2 _ _ _ hE;have f2:wr.frozen? ⟨w.heap.size,2,none⟩=false:=frozen_of_row _ _ 2 _ _ hE;have h1:=signOf_any m.k wr;have HE:Hid (wr.heap[w.heap.size]? = some (.cells #[.int .i64 m.k,.int .i64 m.s,.slice a m.kids.length cp] 39 (0,0))):=hE;clear hE;by_cases hjc:j=c
  · have hsk:signK m.k=false:=by have:=HCm.out;rw [hjc,Nat.sub_self] at this;exact this
    rw [signT_none hsk] at h1;have h1':Calls Tryz.prog 64 #[.int .i64 m.k] wr λe w'=>e = .returned (.string ⟨#[]⟩)/\wr=w':=h1;have HJ:Hid (j=c):=hjc;clear h1 hjc hsk
    go_wp2_with fail
    refine h1'.mono ?_;rintro e w1 ⟨rfl,rfl⟩;go_wp2;go_ret;exact ⟨by rw [HJ.out];rfl,hB⟩
  · obtain ⟨e,he⟩ :∃e,c-j=e+1:=⟨c-j-1,by omega⟩;have hch:=HCm.out;rw [he] at hch;obtain ⟨hsk,x,hx,hcx⟩:=hch;have HCX:Hid (Chain (c-(j+1)) x):=by rw [show c-(j+1)=e by omega];exact hcx
    have hne:=signT_some hsk;obtain ⟨sg,hsg⟩ :∃sg,sg=strOfNums (signT m.k):=⟨_,rfl⟩;rw [<- hsg] at hne h1;have hzz:=HZm.out;rw [hx] at hzz d2;obtain ⟨g,off,cap,z',e1,e2,e3,e4,e5,e6,e7⟩:=hzz.at 0 (by simp);simp only [List.getElem_cons_zero,Nat.zero_mul,Nat.add_zero] at e4 e5 e6 e7;obtain ⟨rfl,_,rfl⟩:a=some ⟨g,off,none⟩/\[x].length=[x].length/\cp=cap:=by simpa using e1
    obtain ⟨xa,xc,rfl,_⟩:=e7.slice;have hgl:=HQ.out g e3;have e4':wr.cell? ⟨g,off,none⟩=some (.int .i64 x.k):=(hB.cell (p:=⟨g,_,none⟩) hgl).trans e4;have e5':wr.cell? ⟨g,off+1,none⟩=some (.int .i64 x.s):=(hB.cell (p:=⟨g,_,none⟩) hgl).trans e5;have e6':wr.cell? ⟨g,off+2,none⟩=some (.slice xa x.kids.length xc):=(hB.cell (p:=⟨g,_,none⟩) hgl).trans e6;have hgne:g≠w.heap.size:=by omega
    have HE7:Hid (KdX Q w (.slice xa x.kids.length xc) x.kids):=e7;simp only [List.length_cons,List.length_nil,Nat.zero_add] at d2;have hcp:1<=cp:=by simpa using e2
    clear hzz e1 e4 e5 e6 e7 hsg hcx hsk he hx HCm HZm
    go_wp2_with fail
    refine h1.mono ?_;rintro e w1 ⟨rfl,rfl⟩;clear h1;go_wp2
    go_roundw
    case rel =>
     refine ⟨j+1,x,xa,xc,by omega,by go_num,HCX,?_,HE7,?_⟩
     · exact heap_set (heap_set (heap_set HE.out _) _) _
     · exact ((hB.setCell (by simp) _).setCell (by simp) _).setCell (by simp) _
    case measure=>simp [intOf];omega
theorem kindOf_any (t:Tok) (v:Value) (hv :∃a n c,v = .slice a n c) (hb:Byt t.t) (w:World):Calls Tryz.prog 212 #[tokV t v] w λe w'=>e = .returned (.tuple #[.int .i64 (kindT t),.bool (kindT t != 0)])/\Below w.heap.size w w':=by
 obtain ⟨va,vn,vc,rfl⟩:=hv;unfold tokV;have HB0:Hid (Below w.heap.size w (w.alloc (.cells #[.int .i64 t.k,.int .i64 (t.p:Int),.string (strOfNums t.t),.slice va vn vc] 54))):=below_alloc _ _;have s42:((strOfNums t.t).toList==([42]:List UInt8))=decide (t.t=[42]):=by
  have:=strNums_eq hb (y:=[42]) (λy hy=>by simp at hy;omega);rw [strL [42]] at this;exact this
 have s43:((strOfNums t.t).toList==([43]:List UInt8))=decide (t.t=[43]):=by
  have:=strNums_eq hb (y:=[43]) (λy hy=>by simp at hy;omega);rw [strL [43]] at this;exact this
 have s63:((strOfNums t.t).toList==([63]:List UInt8))=decide (t.t=[63]):=by
  have:=strNums_eq hb (y:=[63]) (λy hy=>by simp at hy;omega);rw [strL [63]] at this;exact this
 obtain ⟨kk,hkk⟩ :∃kk,kk=kindT t:=⟨_,rfl⟩;rw [<- hkk];have HK:Hid (kk=kindT t):=hkk;clear hkk hb;by_cases h2:t.k=2
 · have h2':(t.k != 2)=false:=by simpa using h2
   by_cases q42:t.t=[42]
   · have HE:Hid (kk=3):=by show _=_;rw [HK.out];simp [kindT,tkSign,h2,q42]
     rw [decide_eq_true q42] at s42;clear q42 s43 s63 h2;go_enter Tryz.func212,Tryz.ntmps212;go_wp2
     go_ret2
     rw [HE.out];exact ⟨rfl,HB0.out⟩
   · rw [decide_eq_false q42] at s42;by_cases q43:t.t=[43]
     · have HE:Hid (kk=4):=by show _=_;rw [HK.out];simp [kindT,tkSign,h2,q43]
       rw [decide_eq_true q43] at s43;clear q43 s63 h2 q42;go_enter Tryz.func212,Tryz.ntmps212;go_wp2
       go_ret2
       rw [HE.out];exact ⟨rfl,HB0.out⟩
     · rw [decide_eq_false q43] at s43;by_cases q63:t.t=[63]
       · have HE:Hid (kk=5):=by show _=_;rw [HK.out];simp [kindT,tkSign,h2,q63]
         rw [decide_eq_true q63] at s63;clear q63 h2 q42 q43;go_enter Tryz.func212,Tryz.ntmps212;go_wp2
         go_ret2
         rw [HE.out];exact ⟨rfl,HB0.out⟩
       · rw [decide_eq_false q63] at s63;have HE:Hid (kk=0):=by show _=_;rw [HK.out];simp [kindT,tkSign,q42,q43,q63]
         clear q63 h2 q42 q43;go_enter Tryz.func212,Tryz.ntmps212;go_wp2
         go_ret2
         rw [HE.out];exact ⟨rfl,HB0.out⟩
 · have h2':(t.k != 2)=true:=by simpa using h2
   have HE:Hid (kk=0):=by show _=_;rw [HK.out];simp [kindT,tkSign,h2]
   clear h2 s42 s43 s63;go_enter Tryz.func212,Tryz.ntmps212;go_wp2
   go_ret2
   rw [HE.out];exact ⟨rfl,HB0.out⟩
theorem joined_any (Q:Nat->Prop) (k:Int) (l:List Nd) (v:Value) (w:World) (hq:∀k,Q k->k<w.heap.size) (hv:KdX Q w v l) (hl:l.length<=80000) :
 Calls Tryz.prog 147 #[.int .i64 k,v] w λe w'=>∃z,e = .returned (ndV (joinN k l) z)/\KdX Q w z (joinN k l).kids/\Below w.heap.size w w':=by
 obtain ⟨va,vc,rfl,_⟩:=hv.slice;by_cases h1:l.length=1
 · obtain ⟨x,rfl⟩:=List.length_eq_one_iff.1 h1;obtain ⟨g,off,cap,z',e1,e2,e3,e4,e5,e6,e7⟩:=hv.at 0 (by simp);simp only [List.getElem_cons_zero,Nat.zero_mul,Nat.add_zero] at e4 e5 e6 e7;obtain ⟨rfl,_,rfl⟩:va=some ⟨g,off,none⟩/\[x].length=[x].length/\vc=cap:=by simpa using e1
   obtain ⟨xa,xc,rfl,_⟩:=e7.slice;have hgl:=hq g e3;have hcp:1<=vc:=by simpa using e2
   have HE7:Hid (KdX Q w (.slice xa x.kids.length xc) x.kids):=e7;have HJ:Hid (joinN k [x]=x):=rfl;simp only [List.length_cons,List.length_nil,Nat.zero_add];obtain ⟨jn,hjn⟩ :∃jn,jn=joinN k [x]:=⟨_,rfl⟩;rw [<- hjn];have HJN:Hid (jn=x):=hjn;clear hv hq e1 e7 h1 hjn;go_enter Tryz.func147,Tryz.ntmps147;go_wp2;refine bodyPost_ret (results_row_one rfl _ _ w.heap.size 39 #[.int .i64 x.k,.int .i64 x.s,.slice xa x.kids.length xc] (0,0) _ rfl ?_ Tryz.underlying39 rfl (by kernel_rfl)) rfl ?_
   · exact heap_new' w _
   rw [HJN.out];exact ⟨_,rfl,HE7.out,below_alloc _ _⟩
 · have h1':((l.length:Int)==1)=false:=by simp;omega
   have HJ:Hid (joinN k l=⟨k,0,l⟩):=by
    show _=_
    match l,h1 with
    | [],_=>rfl
    | [x],h=>exact absurd rfl h
    | x::y::m,_=>rfl
   have HV:Hid (KdX Q w (.slice va l.length vc) l):=hv;obtain ⟨jn,hjn⟩ :∃jn,jn=joinN k l:=⟨_,rfl⟩;rw [<- hjn];have HJN:Hid (jn=⟨k,0,l⟩):=hjn.trans HJ.out;clear hv hq h1 hjn;go_enter Tryz.func147,Tryz.ntmps147;go_wp2;refine bodyPost_ret (results_row_one rfl _ _ w.heap.size 39 #[.int .i64 k,.int .i64 0,.slice va l.length vc] (0,0) _ rfl ?_ Tryz.underlying39 rfl (by kernel_rfl)) rfl ?_
   · exact heap_new' w _
   rw [HJN.out];exact ⟨_,rfl,HV.out,below_alloc _ _⟩
set_option maxHeartbeats 8000000
set_option maxRecDepth 100000
abbrev set3 (w:World) (R:Nat) (a b e:Value):World:=((w.setCell ⟨R,0,none⟩ a).setCell ⟨R,1,none⟩ b).setCell ⟨R,2,none⟩ e
theorem set3_alloc (w:World) (R:Nat) (a b e:Value) (o:Obj) (h:R<w.heap.size):(set3 w R a b e).alloc o=set3 (w.alloc o) R a b e:=by
 unfold set3;rw [World.setCell_alloc_past o R 0 a h,World.setCell_alloc_past o R 1 b (by simpa [World.setCell] using h),World.setCell_alloc_past o R 2 e (by simpa [World.setCell] using h)]
theorem set3_block (w:World) (R:Nat) (a b e:Value) (k:Nat) (h:k≠R):(set3 w R a b e).heap[k]? = w.heap[k]? := by
 rw [Below.heap_setCell _ ⟨R,2,none⟩ e k (by simpa using h),Below.heap_setCell _ ⟨R,1,none⟩ b k (by simpa using h),Below.heap_setCell _ ⟨R,0,none⟩ a k (by simpa using h)]
theorem set3_size (w:World) (R:Nat) (a b e:Value):(set3 w R a b e).heap.size=w.heap.size:=by simp [World.setCell]
theorem set3_row {w:World} {R:Nat} {x y z:Value} (h:w.heap[R]? = some (.cells #[x,y,z] 39 (0,0))) (a b e:Value):(set3 w R a b e).heap[R]? = some (.cells #[a,b,e] 39 (0,0)):=heap_set (heap_set (heap_set h _) _) _
theorem set3_im {w:World} {R P:Nat} (hP:P≠R) (a b e:Value) {Y:Nat->Prop} {k:Nat} (h:Im Y w P k):Im Y (set3 w R a b e) P k :=
 h.same (by rw [set3_size];exact Nat.le_refl _) (World.cell?_of_block (a:=⟨P,3,none⟩) (set3_block w R a b e P hP))
theorem set3_fr {n P R:Nat} (w:World) (hn:n<=R) (hP:P≠R) (a b e:Value):Fr n P w (set3 w R a b e) :=
 ⟨rfl,rfl,rfl,by rw [set3_size];exact Nat.le_refl _,λk hk hm=>⟨set3_block w R a b e k (by omega),set3_im hP a b e hm⟩⟩
theorem Pa.set3 {c:Pc} {X:Nat->Prop} {P:Nat} {w:World} {ts:List Tok} {st:Sts} {d:Nat} (h:Pa c X P w ts st d) {R:Nat} (hx:X R) (hR:Im NoX w P R) (a b e:Value):Pa c X P (set3 w R a b e) ts st d:=by
 have h1:=h.set hx hR 0 a;have i1:=(h.less (X':=NoX) (λ_ q=>q.elim)).set_im hR 0 a hR;have h2:=h1.set hx i1 1 b;have i2:=(h1.less (X':=NoX) (λ_ q=>q.elim)).set_im i1 1 b i1;exact h2.set hx i2 2 e
theorem fin3 {c:Pc} {X:Nat->Prop} {P n R:Nat} {w w1:World} {r:List Tok} {st:Sts} {d:Nat} {z:Value} {l:List Nd} {lo:Nat} (hp:Pa c (λk=>X k\/k=R) P w1 r st d) (hR:Im NoX w1 P R) (hf:Fr n P w w1) (hn:n<=R) (hk:KdX (λk=>lo<=k/\Im (λk=>X k\/k=R) w1 P k) w1 z l) (hlo:n<=lo) (a b e:Value) :
 Pa c X P (set3 w1 R a b e) r st d/\Fr n P w (set3 w1 R a b e)/\KdX (λk=>n<=k/\Im X (set3 w1 R a b e) P k) (set3 w1 R a b e) z l:=by
 have hP:P≠R:=Ne.symm hR.2.1;refine ⟨(hp.set3 (.inr rfl) hR a b e).less (λk hk => .inl hk),hf.trans (set3_fr w1 hn hP a b e),hk.to (λk hk=>⟨set3_block w1 _ a b e k (λq=>hk.2.2.2.2 (.inr q)),by have:=hk.1;omega,(set3_im hP a b e hk.2).less (λq => .inl q)⟩)⟩
def NA (c:Pc) (X:Nat->Prop) (P:Nat) (d:Nat) (q:NR Nd) (w:World) (e:Ending) (w':World):Prop :=
 ∃n z x r st,e = .returned (.tuple #[ndV n z,.int .i64 x])/\KdX (λk=>w.heap.size<=k/\Im X w' P k) w' z n.kids/\Pa c X P w' r st d/\Fr w.heap.size P w w'/\((x≠0/\q = .inl (r,x))\/(x=0/\q = .inr (n,r,st)))
def NFn (g:Nat) (c:Pc) (P:Nat) (ts:List Tok) (st:Sts) (d:Nat) (q:NR Nd):Prop:=∀(X:Nat->Prop) (w:World),Pa c X P w ts st d->Calls Tryz.prog g #[.pointer (some ⟨P,0,none⟩)] w λe w'=>NA c X P d q w e w'
abbrev ndW (w:World):World:=w.alloc (.cells #[.int .i64 0,.int .i64 0,.slice none 0 0] 39)
theorem endedN_any (c:Pc) (X:Nat->Prop) (P:Nat) (w:World) (ts:List Tok) (st:Sts) (d:Nat) (q:NR Nd) (x:Int) (hx:0<=x/\x<=255) (hpa:Pa c X P w ts st d)
 (hcall:NFn 119 c P ts st d q) :
 Calls Tryz.prog 118 #[.pointer (some ⟨P,0,none⟩),.func (.func 119) #[.pointer (some ⟨P,0,none⟩)] #[],.string (strOfNums [x])] w λe w'=>NA c X P d (endN x q) w e w':=by
 have hPl:=hpa.lt;have h1:=hcall _ _ (hpa.alloc (.cells #[.int .i64 0,.int .i64 0,.slice none 0 0] 39));have HIR:Hid (Im NoX (ndW w) P w.heap.size):=hpa.im_new _;have HE0:Hid ((ndW w).heap[w.heap.size]? = some (.cells #[.int .i64 0,.int .i64 0,.slice none 0 0] 39 (0,0))):=heap_new' _ _;have HF0:Hid (Fr w.heap.size P w (ndW w)):=hpa.fr (below_alloc _ _);have HSZ:Hid ((ndW w).heap.size=w.heap.size+1):=by show _=_;simp
 clear hcall hpa;go_enter Tryz.func118,Tryz.ntmps118
 go_wp2_with fail
 refine h1.mono ?_;rintro e w1 ⟨n,z,y,r,st1,rfl,hz,hp,hf,hq⟩;obtain ⟨za,zc,rfl,_⟩:=hz.slice;unfold ndV;have hB1:=below_alloc w1 (.cells #[.int .i64 n.k,.int .i64 n.s,.slice za n.kids.length zc] 39);have hp1:=hp.below hB1;have hf1:Fr (ndW w).heap.size P (ndW w) (w1.alloc (.cells #[.int .i64 n.k,.int .i64 n.s,.slice za n.kids.length zc] 39)):=hf.then (hp.fr hB1) hf.size
 have hz1:=hz.fr (hp.fr hB1);have hR1:=hf1.keep w.heap.size (by rw [HSZ.out];omega) HIR.out;have hE1:=heap_new' w1 (.cells #[.int .i64 n.k,.int .i64 n.s,.slice za n.kids.length zc] 39);have hT:=hp.im_new (.cells #[.int .i64 n.k,.int .i64 n.s,.slice za n.kids.length zc] 39);obtain ⟨w2,hw2⟩ :∃w2,w2=w1.alloc (.cells #[.int .i64 n.k,.int .i64 n.s,.slice za n.kids.length zc] 39):=⟨_,rfl⟩;have HW2:Hid (w1.alloc (.cells #[.int .i64 n.k,.int .i64 n.s,.slice za n.kids.length zc] 39)=w2):=hw2.symm;rw [<- hw2] at hp1 hf1 hz1 hR1 hE1 hT;have hlt1:w1.heap.size<w2.heap.size:=(Array.getElem?_eq_some_iff.1 hE1).1;have HP1:Hid (Pa c (λk=>X k\/k=w.heap.size) P w2 r st1 d):=hp1;have HF1:Hid (Fr w.heap.size P w w2):=HF0.out.then hf1 (by rw [HSZ.out];omega)
 have HZ1:Hid (KdX (λk=>(ndW w).heap.size<=k/\Im (λk=>X k\/k=w.heap.size) w2 P k) w2 (.slice za n.kids.length zc) n.kids):=hz1;have HR1:Hid (w2.heap[w.heap.size]? = some (.cells #[.int .i64 0,.int .i64 0,.slice none 0 0] 39 (0,0))/\Im NoX w2 P w.heap.size):=⟨hR1.1.trans HE0.out,hR1.2⟩;have HT:Hid (w2.heap[w1.heap.size]? = some (.cells #[.int .i64 n.k,.int .i64 n.s,.slice za n.kids.length zc] 39 (0,0))/\Im NoX w2 P w1.heap.size):=⟨hE1,hT⟩;have hne:w.heap.size≠w1.heap.size:=by have:=hf.size;rw [HSZ.out] at this;omega
 have hlw:w.heap.size<w1.heap.size:=by have:=hf.size;rw [HSZ.out] at this;omega
 have hRw:=(hf.keep w.heap.size (by rw [HSZ.out];omega) HIR.out).1.trans HE0.out;have d0:w1.cell? ⟨w.heap.size,0,none⟩=some (.int .i64 0):=cell_of_row _ _ 0 _ _ _ hRw;have f0:w1.frozen? ⟨w.heap.size,0,none⟩=false:=frozen_of_row _ _ 0 _ _ hRw;have d1:w1.cell? ⟨w.heap.size,1,none⟩=some (.int .i64 0):=cell_of_row _ _ 1 _ _ _ hRw;have f1:w1.frozen? ⟨w.heap.size,1,none⟩=false:=frozen_of_row _ _ 1 _ _ hRw;have d2:w1.cell? ⟨w.heap.size,2,none⟩=some (.slice none 0 0):=cell_of_row _ _ 2 _ _ _ hRw;have f2:w1.frozen? ⟨w.heap.size,2,none⟩=false:=frozen_of_row _ _ 2 _ _ hRw;clear h1 hz hp hf hB1 hp1 hf1 hz1 hR1 hE1 hT hw2 HIR HE0 hRw;have fin:∀(w3:World) (r3:List Tok) (y3:Int) (q3:NR Nd),Pa c (λk=>X k\/k=w.heap.size) P w3 r3 st1 d->Fr w2.heap.size P w2 w3->((y3≠0/\q3 = .inl (r3,y3))\/(y3=0/\q3 = .inr (n,r3,st1))) ->
  NA c X P d q3 w (.returned (.tuple #[.agg #[.int .i64 n.k,.int .i64 n.s,.slice za n.kids.length zc],.int .i64 y3])) (set3 w3 w.heap.size (.int .i64 n.k) (.int .i64 n.s) (.slice za n.kids.length zc)):=λw3 r3 y3 q3 hp3 hf3 hq3=>by
  obtain ⟨g1,g2,g3⟩:=fin3 hp3 (hf3.keep _ HR1.out.2.1 HR1.out.2).2 (HF1.out.then hf3 HF1.out.size) (Nat.le_refl _) (HZ1.out.fr hf3) (by rw [HSZ.out];omega) (.int .i64 n.k) (.int .i64 n.s) (.slice za n.kids.length zc);exact ⟨n,_,y3,r3,st1,rfl,g3,g1,g2,hq3⟩
 have FIN:Hid (∀(w3:World) (r3:List Tok) (y3:Int) (q3:NR Nd),Pa c (λk=>X k\/k=w.heap.size) P w3 r3 st1 d->Fr w2.heap.size P w2 w3->((y3≠0/\q3 = .inl (r3,y3))\/(y3=0/\q3 = .inr (n,r3,st1))) ->
  NA c X P d q3 w (.returned (.tuple #[.agg #[.int .i64 n.k,.int .i64 n.s,.slice za n.kids.length zc],.int .i64 y3])) (set3 w3 w.heap.size (.int .i64 n.k) (.int .i64 n.s) (.slice za n.kids.length zc))):=fin
 clear fin;rcases hq with ⟨hy,rfl⟩ | ⟨rfl,rfl⟩
 · have hy':(y==0)=false:=by simpa using hy
   have HY:Hid (y≠0):=hy;clear hy;go_wp2;refine bodyPost_ret (results_row_tmp rfl _ _ w.heap.size 39 #[.int .i64 n.k,.int .i64 n.s,.slice za n.kids.length zc] (0,0) _ rfl ?_ Tryz.underlying39 rfl (by kernel_rfl)) rfl ?_
   · rw [set3_alloc w1 w.heap.size _ _ _ _ hlw,HW2.out];exact set3_row HR1.out.1 _ _ _
   rw [set3_alloc w1 w.heap.size _ _ _ _ hlw,HW2.out];exact FIN.out w2 r y _ HP1.out (Fr.refl _ _ _) (.inl ⟨HY.out,rfl⟩)
 · obtain ⟨t,r',rfl⟩:=HP1.out.ends.cons;have h2:Calls Tryz.prog 115 #[.pointer (some ⟨P,0,none⟩),.string (strOfNums [x])] (w1.alloc (.cells #[.int .i64 n.k,.int .i64 n.s,.slice za n.kids.length zc] 39)) λe w' =>
    e = .returned (.bool (tkSign x t))/\Pa c (λk=>X k\/k=w.heap.size) P w' (if tkSign x t=true then r' else t::r') st1 d/\Fr w2.heap.size P w2 w':=by rw [HW2.out];exact takesSign_ans c _ P w2 t r' st1 d HP1.out x hx
   cases h3:tkSign x t with
   | true =>
    rw [h3] at h2;have HE:Hid (endN x (.inr (n,t::r',st1)) = .inr (n,r',st1)):=by
     show _=_;simp [endN,hdT,h3]
    go_wp2_with fail
    refine h2.mono ?_;rintro e w3 ⟨rfl,hp3,hf3⟩;clear h2 d0 d1 d2 f0 f1 f2;have hR3:=(hf3.keep _ HR1.out.2.1 HR1.out.2).1.trans HR1.out.1;have hT3:=(hf3.keep _ HT.out.2.1 HT.out.2).1.trans HT.out.1;have HR3:Hid (w3.heap[w.heap.size]? = some (.cells #[.int .i64 0,.int .i64 0,.slice none 0 0] 39 (0,0))):=hR3;have d0:w3.cell? ⟨w.heap.size,0,none⟩=some (.int .i64 0):=cell_of_row _ _ 0 _ _ _ hR3;have f0:w3.frozen? ⟨w.heap.size,0,none⟩=false:=frozen_of_row _ _ 0 _ _ hR3;have d1:w3.cell? ⟨w.heap.size,1,none⟩=some (.int .i64 0):=cell_of_row _ _ 1 _ _ _ hR3;have f1:w3.frozen? ⟨w.heap.size,1,none⟩=false:=frozen_of_row _ _ 1 _ _ hR3;have d2:w3.cell? ⟨w.heap.size,2,none⟩=some (.slice none 0 0):=cell_of_row _ _ 2 _ _ _ hR3;have f2:w3.frozen? ⟨w.heap.size,2,none⟩=false:=frozen_of_row _ _ 2 _ _ hR3;have t0:w3.cell? ⟨w1.heap.size,0,none⟩=some (.int .i64 n.k):=cell_of_row _ _ 0 _ _ _ hT3;have t1:w3.cell? ⟨w1.heap.size,1,none⟩=some (.int .i64 n.s):=cell_of_row _ _ 1 _ _ _ hT3;have t2:w3.cell? ⟨w1.heap.size,2,none⟩=some (.slice za n.kids.length zc):=cell_of_row _ _ 2 _ _ _ hT3;clear hR3 hT3;go_wp2;refine bodyPost_ret (results_row_tmp rfl _ _ w.heap.size 39 #[.int .i64 n.k,.int .i64 n.s,.slice za n.kids.length zc] (0,0) _ rfl ?_ Tryz.underlying39 rfl (by kernel_rfl)) rfl ?_
    · exact set3_row HR3.out _ _ _
    exact FIN.out w3 r' 0 _ hp3 hf3 (.inr ⟨rfl,HE.out⟩)
   | false =>
    rw [h3] at h2;have HE:Hid (endN x (.inr (n,t::r',st1)) = .inl (t::r',6)):=by
     show _=_;simp [endN,hdT,h3]
    go_wp2_with fail
    refine h2.mono ?_;rintro e w3 ⟨rfl,hp3,hf3⟩;clear h2 d0 d1 d2 f0 f1 f2;have hR3:=(hf3.keep _ HR1.out.2.1 HR1.out.2).1.trans HR1.out.1;have hT3:=(hf3.keep _ HT.out.2.1 HT.out.2).1.trans HT.out.1;have HR3:Hid (w3.heap[w.heap.size]? = some (.cells #[.int .i64 0,.int .i64 0,.slice none 0 0] 39 (0,0))):=hR3;have d0:w3.cell? ⟨w.heap.size,0,none⟩=some (.int .i64 0):=cell_of_row _ _ 0 _ _ _ hR3;have f0:w3.frozen? ⟨w.heap.size,0,none⟩=false:=frozen_of_row _ _ 0 _ _ hR3;have d1:w3.cell? ⟨w.heap.size,1,none⟩=some (.int .i64 0):=cell_of_row _ _ 1 _ _ _ hR3;have f1:w3.frozen? ⟨w.heap.size,1,none⟩=false:=frozen_of_row _ _ 1 _ _ hR3;have d2:w3.cell? ⟨w.heap.size,2,none⟩=some (.slice none 0 0):=cell_of_row _ _ 2 _ _ _ hR3;have f2:w3.frozen? ⟨w.heap.size,2,none⟩=false:=frozen_of_row _ _ 2 _ _ hR3;have t0:w3.cell? ⟨w1.heap.size,0,none⟩=some (.int .i64 n.k):=cell_of_row _ _ 0 _ _ _ hT3;have t1:w3.cell? ⟨w1.heap.size,1,none⟩=some (.int .i64 n.s):=cell_of_row _ _ 1 _ _ _ hT3;have t2:w3.cell? ⟨w1.heap.size,2,none⟩=some (.slice za n.kids.length zc):=cell_of_row _ _ 2 _ _ _ hT3;clear hR3 hT3;go_wp2;refine bodyPost_ret (results_row_tmp rfl _ _ w.heap.size 39 #[.int .i64 n.k,.int .i64 n.s,.slice za n.kids.length zc] (0,0) _ rfl ?_ Tryz.underlying39 rfl (by kernel_rfl)) rfl ?_
    · exact set3_row HR3.out _ _ _
    exact FIN.out w3 (t::r') 6 _ hp3 hf3 (.inl ⟨by decide,HE.out⟩)
theorem deeperN_full (c:Pc) (X:Nat->Prop) (P:Nat) (w:World) (ts:List Tok) (st:Sts) (g:Nat) (bs cs:Array Value) (hpa:Pa c X P w ts st 20) :
 Calls Tryz.prog 231 #[.pointer (some ⟨P,0,none⟩),.func (.func g) bs cs] w λe w'=>NA c X P 20 (.inl (ts,3)) w e w':=by
 obtain ⟨c5,f5,_⟩:=hpa.dep;have hP:=hpa.lt;have HP:Hid (Pa c X P w ts st 20):=hpa;have HB:Hid (Below w.heap.size w ((ndW w).alloc (.cells #[.int .i64 0,.int .i64 0,.slice none 0 0] 39))):=below_after (below_alloc _ _) (below_alloc _ _);have HE:Hid (((ndW w).alloc (.cells #[.int .i64 0,.int .i64 0,.slice none 0 0] 39)).heap[w.heap.size]? = some (.cells #[.int .i64 0,.int .i64 0,.slice none 0 0] 39 (0,0))):=((below_alloc _ _).block _ (by simp)).trans (heap_new' _ _);clear hpa;go_enter Tryz.func231,Tryz.ntmps231;go_wp2;refine bodyPost_ret (results_row_tmp rfl _ _ w.heap.size 39 #[.int .i64 0,.int .i64 0,.slice none 0 0] (0,0) _ rfl ?_ Tryz.underlying39 rfl (by kernel_rfl)) rfl ?_
 · exact HE.out
 exact ⟨⟨0,0,[]⟩,_,3,ts,st,rfl,KdX.nil _ _,HP.out.below HB.out,HP.out.fr HB.out,.inl ⟨by decide,rfl⟩⟩
theorem deeperN_any (c:Pc) (X:Nat->Prop) (P:Nat) (w:World) (t:Tok) (r:List Tok) (st:Sts) (d:Nat) (g:Nat) (bs cs:Array Value) (q:NR Nd)
 (eg:∀args w,(callFunc g args).run Tryz.prog w = .ok (.enter g args) w) (hd:d<20) (hk:t.k≠4) (hpa:Pa c X P w (t::r) st d)
 (hcall:∀(Y:Nat->Prop) w1,Pa c Y P w1 r st (d+1)->Fr w.heap.size P w w1->Calls Tryz.prog g (bs++cs) w1 λe w'=>NA c Y P (d+1) q w1 e w') :
 Calls Tryz.prog 231 #[.pointer (some ⟨P,0,none⟩),.func (.func g) bs cs] w λe w'=>NA c X P d q w e w':=by
 obtain ⟨c5,f5,_⟩:=hpa.dep;have hP:=hpa.lt;have h1:=take_any c _ P _ t r st d (hpa.alloc (.cells #[.int .i64 0,.int .i64 0,.slice none 0 0] 39)) hk;have hd20:((d:Int)==20)=false:=by simp;omega
 have HC:Hid (∀(Y:Nat->Prop) w1,Pa c Y P w1 r st (d+1)->Fr w.heap.size P w w1->Calls Tryz.prog g (bs++cs) w1 λe w'=>NA c Y P (d+1) q w1 e w'):=hcall;have HIR:Hid (Im NoX (ndW w) P w.heap.size):=hpa.im_new _;have HE0:Hid ((ndW w).heap[w.heap.size]? = some (.cells #[.int .i64 0,.int .i64 0,.slice none 0 0] 39 (0,0))):=heap_new' _ _;have HF0:Hid (Fr w.heap.size P w (ndW w)):=hpa.fr (below_alloc _ _);have HSZ:Hid ((ndW w).heap.size=w.heap.size+1):=by show _=_;simp
 clear hpa hcall;go_enter Tryz.func231,Tryz.ntmps231
 go_wp2_with fail
 refine h1.mono ?_;rintro e w1 ⟨rfl,hp1,hf1,hs1⟩;clear h1 c5 f5;obtain ⟨c5,f5,_⟩:=hp1.dep;have hP1:=hp1.lt;have hp2:=hp1.deep (d+1) (by omega);rw [show ((d+1:Nat):Int)=(d:Int)+1 by simp] at hp2;have hf2:Fr (ndW w).heap.size P (ndW w) (w1.setCell ⟨P,5,none⟩ (.int .i64 ((d:Int)+1))):=hf1.trans (fr_own w1 5 (by decide) _);have hf02:=HF0.out.then hf2 (by rw [HSZ.out];omega)
 have h2:=HC.out _ _ hp2 hf02;have HF02:Hid (Fr w.heap.size P w (w1.setCell ⟨P,5,none⟩ (.int .i64 ((d:Int)+1)))):=hf02;have HR2:Hid ((w1.setCell ⟨P,5,none⟩ (.int .i64 ((d:Int)+1))).heap[w.heap.size]? = some (.cells #[.int .i64 0,.int .i64 0,.slice none 0 0] 39 (0,0))/\Im NoX (w1.setCell ⟨P,5,none⟩ (.int .i64 ((d:Int)+1))) P w.heap.size):=by
  obtain ⟨q1,q2⟩:=hf2.keep w.heap.size (by rw [HSZ.out];omega) HIR.out;exact ⟨q1.trans HE0.out,q2⟩
 have HSZ2:Hid (w.heap.size<(w1.setCell ⟨P,5,none⟩ (.int .i64 ((d:Int)+1))).heap.size):=HR2.out.2.1;clear hf2 hf02 hp2
 go_wp2_with fail
 refine h2.mono ?_;rintro e w2 ⟨n,z,y,r2,st2,rfl,hz,hp,hf,hq⟩;obtain ⟨za,zc,rfl,_⟩:=hz.slice;unfold ndV;obtain ⟨hR3,hI3⟩:=hf.keep w.heap.size HSZ2.out HR2.out.2;have hR3':=hR3.trans HR2.out.1;have HR3:Hid (w2.heap[w.heap.size]? = some (.cells #[.int .i64 0,.int .i64 0,.slice none 0 0] 39 (0,0))/\Im NoX w2 P w.heap.size):=⟨hR3',hI3⟩;have HZ:Hid (KdX (λk=>(w1.setCell ⟨P,5,none⟩ (.int .i64 ((d:Int)+1))).heap.size<=k/\Im (λk=>X k\/k=w.heap.size) w2 P k) w2 (.slice za n.kids.length zc) n.kids):=hz;have HP:Hid (Pa c (λk=>X k\/k=w.heap.size) P w2 r2 st2 (d+1)):=hp;have HF2:Hid (Fr w.heap.size P w w2):=HF02.out.then hf HF02.out.size
 have HQ:Hid ((y≠0/\q = .inl (r2,y))\/(y=0/\q = .inr (n,r2,st2))):=hq;clear h2 c5 f5;obtain ⟨c5,f5,_⟩:=hp.dep;rw [show ((d+1:Nat):Int)=(d:Int)+1 by simp] at c5;have hP2:=hp.lt;have hlw:w.heap.size<w2.heap.size:=hI3.1;have hne:P≠w.heap.size:=by omega
 have d0:w2.cell? ⟨w.heap.size,0,none⟩=some (.int .i64 0):=cell_of_row _ _ 0 _ _ _ hR3';have df0:w2.frozen? ⟨w.heap.size,0,none⟩=false:=frozen_of_row _ _ 0 _ _ hR3';have d1:w2.cell? ⟨w.heap.size,1,none⟩=some (.int .i64 0):=cell_of_row _ _ 1 _ _ _ hR3';have df1:w2.frozen? ⟨w.heap.size,1,none⟩=false:=frozen_of_row _ _ 1 _ _ hR3';have d2:w2.cell? ⟨w.heap.size,2,none⟩=some (.slice none 0 0):=cell_of_row _ _ 2 _ _ _ hR3';have df2:w2.frozen? ⟨w.heap.size,2,none⟩=false:=frozen_of_row _ _ 2 _ _ hR3';clear hp hf hz hq hR3 hR3' hI3 hp1 hf1;go_wp2;have hB5:=below_alloc (w2.setCell ⟨P,5,none⟩ (.int .i64 (d:Int))) (.cells #[.int .i64 n.k,.int .i64 n.s,.slice za n.kids.length zc] 39);have hf5:Fr w2.heap.size P w2 (w2.setCell ⟨P,5,none⟩ (.int .i64 (d:Int))):=fr_own w2 5 (by decide) _;have hp5:=HP.out.deep d (by omega);have hf6:Fr w2.heap.size P w2 ((w2.setCell ⟨P,5,none⟩ (.int .i64 (d:Int))).alloc (.cells #[.int .i64 n.k,.int .i64 n.s,.slice za n.kids.length zc] 39)):=hf5.then (hp5.fr hB5) hf5.size
 obtain ⟨hR6,hI6⟩:=hf6.keep w.heap.size hlw HR3.out.2;have hsw:w.heap.size<(w2.setCell ⟨P,5,none⟩ (.int .i64 (d:Int))).heap.size:=by simpa [World.setCell] using hlw
 refine bodyPost_ret (results_row_tmp rfl _ _ w.heap.size 39 #[.int .i64 n.k,.int .i64 n.s,.slice za n.kids.length zc] (0,0) _ rfl ?_ Tryz.underlying39 rfl (by kernel_rfl)) rfl ?_
 · rw [set3_alloc _ w.heap.size _ _ _ _ hsw];exact set3_row (hR6.trans HR3.out.1) _ _ _
 rw [set3_alloc _ w.heap.size _ _ _ _ hsw];obtain ⟨g1,g2,g3⟩:=fin3 (hp5.below hB5) hI6 (HF2.out.then hf6 HF2.out.size) (Nat.le_refl _) (HZ.out.fr hf6) (Nat.le_of_lt HSZ2.out) (.int .i64 n.k) (.int .i64 n.s) (.slice za n.kids.length zc);exact ⟨n,_,y,r2,st2,rfl,g3,g1,g2,HQ.out⟩
theorem bracketN1_any (c:Pc) (X:Nat->Prop) (P B1 B2:Nat) (w:World) (ts:List Tok) (st:Sts) (d:Nat) (q:NR Nd) (h1:w.cell? ⟨B1,0,none⟩=some (.pointer (some ⟨P,0,none⟩))) (h2:w.cell? ⟨B2,0,none⟩=some (.func (.func 119) #[.pointer (some ⟨P,0,none⟩)] #[])) (hpa:Pa c X P w ts st d)
 (hcall:NFn 119 c P ts st d q) :
 Calls Tryz.prog 232 #[.pointer (some ⟨B1,0,none⟩),.pointer (some ⟨B2,0,none⟩)] w λe w'=>NA c X P d (endN 41 q) w e w':=by
 have hb1:B1<w.heap.size:=World.block_lt_of_cell? w ⟨B1,0,none⟩ h1;have hb2:B2<w.heap.size:=World.block_lt_of_cell? w ⟨B2,0,none⟩ h2;have h3:Calls Tryz.prog 118 #[.pointer (some ⟨P,0,none⟩),.func (.func 119) #[.pointer (some ⟨P,0,none⟩)] #[],.string ⟨#[41]⟩] (ndW w) λe w'=>NA c (λk=>X k\/k=w.heap.size) P d (endN 41 q) (ndW w) e w':=endedN_any c _ P _ ts st d q 41 (by decide) (hpa.alloc _) hcall;have HIR:Hid (Im NoX (ndW w) P w.heap.size):=hpa.im_new _;have HE0:Hid ((ndW w).heap[w.heap.size]? = some (.cells #[.int .i64 0,.int .i64 0,.slice none 0 0] 39 (0,0))):=heap_new' _ _;have HF0:Hid (Fr w.heap.size P w (ndW w)):=hpa.fr (below_alloc _ _);have HSZ:Hid ((ndW w).heap.size=w.heap.size+1):=by show _=_;simp
 clear hcall hpa;go_enter Tryz.func232,Tryz.ntmps232
 go_wp2_with fail
 refine h3.mono ?_;rintro e w2 ⟨n,z,y,r2,st2,rfl,hz,hp,hf,hq⟩;obtain ⟨za,zc,rfl,_⟩:=hz.slice;unfold ndV;obtain ⟨hR3,hI3⟩:=hf.keep w.heap.size (by rw [HSZ.out];omega) HIR.out;have hR3':=hR3.trans HE0.out;have HFIN:Hid (Pa c X P (set3 w2 w.heap.size (.int .i64 n.k) (.int .i64 n.s) (.slice za n.kids.length zc)) r2 st2 d/\Fr w.heap.size P w (set3 w2 w.heap.size (.int .i64 n.k) (.int .i64 n.s) (.slice za n.kids.length zc))/\KdX (λk=>w.heap.size<=k/\Im X (set3 w2 w.heap.size (.int .i64 n.k) (.int .i64 n.s) (.slice za n.kids.length zc)) P k) (set3 w2 w.heap.size (.int .i64 n.k) (.int .i64 n.s) (.slice za n.kids.length zc)) (.slice za n.kids.length zc) n.kids) :=
  fin3 hp hI3 (HF0.out.then hf (by rw [HSZ.out];omega)) (Nat.le_refl _) hz (by rw [HSZ.out];omega) _ _ _
 have HR3:Hid (w2.heap[w.heap.size]? = some (.cells #[.int .i64 0,.int .i64 0,.slice none 0 0] 39 (0,0))):=hR3';have d0:w2.cell? ⟨w.heap.size,0,none⟩=some (.int .i64 0):=cell_of_row _ _ 0 _ _ _ hR3';have df0:w2.frozen? ⟨w.heap.size,0,none⟩=false:=frozen_of_row _ _ 0 _ _ hR3';have d1:w2.cell? ⟨w.heap.size,1,none⟩=some (.int .i64 0):=cell_of_row _ _ 1 _ _ _ hR3';have df1:w2.frozen? ⟨w.heap.size,1,none⟩=false:=frozen_of_row _ _ 1 _ _ hR3';have d2:w2.cell? ⟨w.heap.size,2,none⟩=some (.slice none 0 0):=cell_of_row _ _ 2 _ _ _ hR3';have df2:w2.frozen? ⟨w.heap.size,2,none⟩=false:=frozen_of_row _ _ 2 _ _ hR3';have hlw:w.heap.size<w2.heap.size:=hI3.1;clear h3 hp hf hz hR3 hR3' hI3;go_wp2;refine bodyPost_ret (results_row_tmp rfl _ _ w.heap.size 39 #[.int .i64 n.k,.int .i64 n.s,.slice za n.kids.length zc] (0,0) _ rfl ?_ Tryz.underlying39 rfl (by kernel_rfl)) rfl ?_
 · exact set3_row HR3.out _ _ _
 exact ⟨n,_,y,r2,st2,rfl,HFIN.out.2.2,HFIN.out.1,HFIN.out.2.1,hq⟩
end Go.Proofs.YtfdjchnckjgapaaGreatDoor
