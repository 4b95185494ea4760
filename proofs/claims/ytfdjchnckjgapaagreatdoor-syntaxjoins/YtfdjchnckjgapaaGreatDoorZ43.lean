/-
  RefM MetP
-/
import Derived.Test.YtfdjchnckjgapaaGreatDoorZ42
import Derived.Test.YtfdjchnckjgapaaGreatDoorZ38
namespace Go.Proofs.YtfdjchnckjgapaaGreatDoor
open Go.RowKit Go.Shelf S1
set_option linter.unusedVariables false
def inS (b:Nat) (s:Int):Bool:=decide (0<=s)&&decide (s<(b:Int))
def frN:Nat->Nat->Nat->Nat->Nd->Bool
 | 0,dp,sg,b,n=>if n.k=1 then n.kids.isEmpty&&inS b n.s else okH sg n
 | f+1,dp,sg,b,n=>if n.k=1 then n.kids.isEmpty&&inS b n.s else okH sg n&&n.kids.all λx=>decide (dp+brN x.k n.k<=20)&&frN f (dp+brN x.k n.k) (sgs sg n.k) b x
def rmS (a s:Int):Int:=if a<s then -1 else if a<s+1 then s+1 else a
def rmL (g:Int->Nd->Int):Int->List Nd->Int
 | a,[]=>a
 | a,x::l=>if a<0 then a else rmL g (g a x) l
def rmN:Nat->Int->Nd->Int
 | 0,a,n=>if n.k=1 then rmS a n.s else a
 | f+1,a,n=>if n.k=1 then rmS a n.s else rmL (rmN f) a n.kids
def sinB:Nat->Nat->Nd->Bool
 | 0,b,n=>if n.k=1 then inS b n.s else true
 | f+1,b,n=>if n.k=1 then inS b n.s else n.kids.all (sinB f b)
def oI (o:Option Nat):Int:=match o with
 | none=>-1
 | some m=>(m:Int)
theorem rmS_eq {m:Nat} {s:Int} (h:0<=s):rmS (m:Int) s=oI (meetS m s):=by
 unfold rmS meetS;by_cases h1:(m:Int)<s
 · rw [if_pos h1,if_neg (by omega),if_neg (by omega)];rfl
 · rw [if_neg h1];by_cases h2:s=(m:Int)
   · rw [if_pos (by omega),if_pos h2,h2];simp [oI]
   · rw [if_neg (by omega),if_neg h2,if_pos (by omega)];rfl
theorem inS_iff {b:Nat} {s:Int}:inS b s=true↔0<=s/\s<(b:Int):=by simp [inS]
theorem frN_eq:∀(f dp sg b:Nat) (n:Nd),Dp f n.kids->frN f dp sg b n=(okN f dp sg n&&sinB f b n)
 | 0,dp,sg,b,n,hd=>by
  unfold frN okN sinB;by_cases h:n.k=1
  · simp [h]
  · simp [h]
 | f+1,dp,sg,b,n,hd=>by
  unfold frN okN sinB;by_cases h:n.k=1
  · simp [h]
  · simp only [h,if_false];have key:∀l:List Nd,(∀x∈l,Dp f x.kids)->(l.all λx=>decide (dp+brN x.k n.k<=20)&&frN f (dp+brN x.k n.k) (sgs sg n.k) b x)=((l.all λx=>decide (dp+brN x.k n.k<=20)&&okN f (dp+brN x.k n.k) (sgs sg n.k) x)&&l.all (sinB f b)):=by
     intro l
     induction l with
     | nil=>intro _;rfl
     | cons x l ih =>
      intro hl;simp only [List.all_cons];rw [ih (λy hy=>hl y (by simp [hy])),frN_eq f _ _ b x (hl x (by simp))];cases decide (dp+brN x.k n.k<=20)<;>cases okN f (dp+brN x.k n.k) (sgs sg n.k) x<;>cases sinB f b x<;>simp
    rw [key _ hd.2,Bool.and_assoc]
theorem rmL_neg {g:Int->Nd->Int} {a:Int} (h:a<0):∀(l:List Nd),rmL g a l=a
 | []=>rfl
 | x::l=>by unfold rmL;rw [if_pos h]
theorem rmN_eq:∀(f m b:Nat) (n:Nd),sinB f b n=true->rmN f (m:Int) n=oI (metN f m n)
 | 0,m,b,n,hs=>by
  unfold rmN metN;unfold sinB at hs;by_cases h:n.k=1
  · simp only [h,if_true] at hs ⊢;exact rmS_eq (inS_iff.1 hs).1
  · simp only [h,if_false];rfl
 | f+1,m,b,n,hs=>by
  unfold rmN metN;unfold sinB at hs;by_cases h:n.k=1
  · simp only [h,if_true] at hs ⊢;exact rmS_eq (inS_iff.1 hs).1
  · simp only [h,if_false] at hs ⊢;have key:∀(l:List Nd) (m:Nat),l.all (sinB f b)=true->rmL (rmN f) (m:Int) l=oI (metL (metN f) m l):=by
     intro l
     induction l with
     | nil=>intro m _;rfl
     | cons x l ih =>
      intro m hl;simp only [List.all_cons,Bool.and_eq_true] at hl;unfold rmL metL;rw [if_neg (by omega),rmN_eq f m b x hl.1];cases hm:metN f m x with
      | none=>simp only [oI];exact rmL_neg (by decide) l
      | some m'=>simp only [oI];exact ih m' hl.2
    exact key _ m hs
theorem sinB_of:∀ {f b:Nat} {n:Nd},SIn f b n->sinB f b n=true
 | 0,b,n,h=>by
  unfold sinB
  split
  · rename_i hk;exact inS_iff.2 (h hk)
  · rfl
 | f+1,b,n,h=>by
  unfold sinB
  split
  · rename_i hk;exact inS_iff.2 (h.1 hk)
  · rw [List.all_eq_true];exact λx hx=>sinB_of (h.2 x hx)
def refR (b:Nat):Int->List Rl->Bool
 | a,[]=>a==(b:Int)
 | a,x::l=>frN 120 0 0 b x.l&&frN 120 0 0 b x.r&&(if rmN 120 a x.l<0 then false else if rmN 120 (rmN 120 a x.l) x.r<0 then false else refR b (rmN 120 (rmN 120 a x.l) x.r) l)
theorem mayN_none {f dp sg m b:Nat} {n:Nd} (hd:Dp f n.kids) (h:mayN f dp sg m n=none):frN f dp sg b n=false\/rmN f (m:Int) n<0:=by
 rw [frN_eq f dp sg b n hd];unfold mayN at h;cases ho:okN f dp sg n with
 | false=>left;rfl
 | true =>
  cases hs:sinB f b n with
  | false=>left;rfl
  | true =>
   right
   rw [ho,if_pos rfl] at h;rw [rmN_eq f m b n hs,h];decide
theorem mayN_some {f dp sg m b:Nat} {n:Nd} {m':Nat} (hd:Dp f n.kids) (h:mayN f dp sg m n=some m'):frN f dp sg b n=sinB f b n/\(sinB f b n=true->rmN f (m:Int) n=(m':Int)):=by
 rw [frN_eq f dp sg b n hd];unfold mayN at h
 split at h
 · rename_i ho;rw [ho];refine ⟨by simp,λhs => ?_⟩;rw [rmN_eq f m b n hs,h];rfl
 · cases h
theorem refR_eq {b:Nat}:∀ {rl:List Rl} {m:Nat},(∀x∈rl,Dp 120 x.l.kids/\Dp 120 x.r.kids)->refR b (m:Int) rl=(mayR m rl==some b)
 | [],m,_=>by
  show ((m:Int)==(b:Int))=(some m==some b);by_cases e:m=b
  · subst e;simp
  · have e2:((m:Int)==(b:Int))=false:=by simp;omega
    rw [e2];simp [e]
 | x::l,m,hd=>by
  have h1:=hd x (by simp);have hl:∀y∈l,Dp 120 y.l.kids/\Dp 120 y.r.kids:=λy hy=>hd y (by simp [hy]);have hno:∀ {q:Bool},(q=true->False)->q=false:=fun {q} h=>by cases q<;>simp_all
  cases hm1:mayN 120 0 0 m x.l with
  | none =>
   have hr:mayR m (x::l)=none:=by rw [mayR,hm1]
   rw [hr];unfold refR;rcases mayN_none (b:=b) h1.1 hm1 with h | h
   · rw [h];rfl
   · rw [if_pos h];simp
  | some m1 =>
   obtain ⟨f1,f2⟩:=mayN_some (b:=b) h1.1 hm1;cases hm2:mayN 120 0 0 m1 x.r with
   | none =>
    have hr:mayR m (x::l)=none:=by rw [mayR,hm1];simp only;rw [hm2]
    rw [hr];unfold refR;cases hs:sinB 120 b x.l with
    | false=>rw [f1,hs];rfl
    | true =>
     rw [f2 hs];rcases mayN_none (b:=b) h1.2 hm2 with h | h
     · rw [h];simp
     · rw [if_neg (by omega),if_pos h];simp
   | some m2 =>
    obtain ⟨g1,g2⟩:=mayN_some (b:=b) h1.2 hm2;have hr:mayR m (x::l)=mayR m2 l:=by rw [mayR,hm1];simp only;rw [hm2]
    rw [hr];have ih:=refR_eq (b:=b) (rl:=l) (m:=m2) hl;unfold refR;cases hs:sinB 120 b x.l with
    | false =>
     rw [f1,hs]
     symm
     rw [show (false&&frN 120 0 0 b x.r&&_)=false from rfl];refine hno (λq => ?_);have q':=beq_iff_eq.1 q;have hin:=(mayN_in h1.1 hm1).1;have hle1:=(mayN_in h1.2 hm2).2;have hle2:=(mayR_in hl q').2;rw [sinB_of (hin.more (by omega:m1<=b))] at hs;cases hs
    | true =>
     cases ht:sinB 120 b x.r with
     | false =>
      rw [f1,hs,g1,ht]
      symm
      rw [show (true&&false&&_)=false from rfl];refine hno (λq => ?_);have q':=beq_iff_eq.1 q;have hin:=(mayN_in h1.2 hm2).1;have hle2:=(mayR_in hl q').2;rw [sinB_of (hin.more hle2)] at ht;cases ht
     | true =>
      rw [f1,hs,g1,ht,f2 hs,g2 ht,if_neg (by omega),if_neg (by omega)];simpa using ih
set_option maxHeartbeats 8000000
set_option maxRecDepth 100000
theorem open_any8 (nk ns:Int) (za:Option Addr) (len ca:Nat) (yk ys:Int) (xa:Option Addr) (yl ka:Nat) (w:World) :
 Calls Tryz.prog 58 #[.agg #[.int .i64 nk,.int .i64 ns,.slice za len ca],.agg #[.int .i64 yk,.int .i64 ys,.slice xa yl ka]] w λe w'=>e = .returned (.bool (inBr yk nk))/\Below w.heap.size w w':=by
 have HB0:Hid (Below w.heap.size w ((w.alloc (.cells #[.int .i64 nk,.int .i64 ns,.slice za len ca] 39)).alloc (.cells #[.int .i64 yk,.int .i64 ys,.slice xa yl ka] 39))):=below_after (below_alloc _ _) (below_alloc _ _);by_cases h:nk=2
 · subst h;have e:inBr yk 2=(yk==2):=by simp [inBr]
   rw [e];clear e;go_enter Tryz.func58,Tryz.ntmps58;go_wp2;go_ret;exact ⟨rfl,HB0.out⟩
 · have h':(nk==2)=false:=by simpa using h
   by_cases h2:yk=2
   · subst h2;have e:inBr 2 nk=true:=by simp [inBr]
     rw [e];clear e h;go_enter Tryz.func58,Tryz.ntmps58;go_wp2;go_ret;exact ⟨rfl,HB0.out⟩
   · have h2':(yk==2)=false:=by simpa using h2
     have e:inBr yk nk=(yk==0):=by simp [inBr,h2',h]
     rw [e];clear e h h2;go_enter Tryz.func58,Tryz.ntmps58;go_wp2;go_ret;exact ⟨rfl,HB0.out⟩
theorem rmS_le {a s:Int} (h:0<=a):rmS a s<=a+1/\-1<=rmS a s:=by
 unfold rmS
 repeat' split
 all_goals omega
theorem rmN_le:∀ {f:Nat} {a:Int} {n:Nd},0<=a->rmN f a n<=a+(Sz f n:Int)/\-1<=rmN f a n
 | 0,a,n,h=>by
  unfold rmN
  split
  · have:=rmS_le (s:=n.s) h;simp [Sz];omega
  · simp [Sz];omega
 | f+1,a,n,h=>by
  unfold rmN
  split
  · have:=rmS_le (s:=n.s) h;simp [Sz];omega
  · have key:∀(l:List Nd) (a:Int),-1<=a->rmL (rmN f) a l<=(if a<0 then 0 else a)+((l.map (Sz f)).sum:Nat)/\-1<=rmL (rmN f) a l:=by
     intro l
     induction l with
     | nil =>
      intro a h;unfold rmL;refine ⟨?_,h⟩
      split<;>simp<;>omega
     | cons x l ih =>
      intro a h;unfold rmL;by_cases q:a<0
      · rw [if_pos q,if_pos q];constructor<;>omega
      · rw [if_neg q,if_neg q];have h1:=rmN_le (f:=f) (n:=x) (by omega:0<=a);have h2:=ih (rmN f a x) h1.2;simp only [List.map_cons,List.sum_cons]
        split at h2<;>omega
    have:=key n.kids a (by omega);rw [if_neg (by omega)] at this;simp only [Sz];omega
theorem met_body (n:Nd) (za:Option Addr) (ca:Nat) (f a:Nat) (r:Int) (hlen:n.kids.length<=3100) (hb:a+(1+(n.kids.map (Sz f)).sum)<=1000000) (w:World) (hs0:n.k=1->0<=n.s) (hr:r=if n.k=1 then rmS (a:Int) n.s else rmL (rmN f) (a:Int) n.kids)
 (HR:∀i,(h:i<n.kids.length)->n.kids.length<=ca/\∃ga oa xa ka,za=some ⟨ga,oa,none⟩/\ga<w.heap.size/\w.cell? ⟨ga,oa+i*3,none⟩=some (.int .i64 n.kids[i].k)/\w.cell? ⟨ga,oa+i*3+1,none⟩=some (.int .i64 n.kids[i].s)/\w.cell? ⟨ga,oa+i*3+2,none⟩=some (.slice xa n.kids[i].kids.length ka) /\
  (∀(a':Nat) W,a'+Sz f n.kids[i]<=1000000->Below w.heap.size w W->Calls Tryz.prog 33 #[.agg #[.int .i64 n.kids[i].k,.int .i64 n.kids[i].s,.slice xa n.kids[i].kids.length ka],.int .i64 (a':Int)] W λe w''=>e = .returned (.int .i64 (rmN f (a':Int) n.kids[i]))/\Below W.heap.size W w'')) :
 Calls Tryz.prog 33 #[.agg #[.int .i64 n.k,.int .i64 n.s,.slice za n.kids.length ca],.int .i64 (a:Int)] w λe w'=>e = .returned (.int .i64 r)/\Below w.heap.size w w':=by
 have HHR:Hid (∀i,(h:i<n.kids.length)->n.kids.length<=ca/\∃(ga oa:Nat) (xa:Option Addr) (ka:Nat) (yk ys:Int) (yl:Nat),za=some ⟨ga,oa,none⟩/\ga<w.heap.size/\w.cell? ⟨ga,oa+i*3,none⟩=some (.int .i64 yk)/\w.cell? ⟨ga,oa+i*3+1,none⟩=some (.int .i64 ys)/\w.cell? ⟨ga,oa+i*3+2,none⟩=some (.slice xa yl ka) /\
  (∀(a':Nat) W,a'+Sz f n.kids[i]<=1000000->Below w.heap.size w W->Calls Tryz.prog 33 #[.agg #[.int .i64 yk,.int .i64 ys,.slice xa yl ka],.int .i64 (a':Int)] W λe w''=>e = .returned (.int .i64 (rmN f (a':Int) n.kids[i]))/\Below W.heap.size W w'')):=λi hi=>by
  obtain ⟨h1,ga,oa,xa,ka,h⟩:=HR i hi;exact ⟨h1,ga,oa,xa,ka,_,_,_,h⟩
 have HS0:Hid (n.k=1->0<=n.s):=hs0;have HRE:Hid (r=if n.k=1 then rmS (a:Int) n.s else rmL (rmN f) (a:Int) n.kids):=hr;have HBD:Hid (a+(1+(n.kids.map (Sz f)).sum)<=1000000):=hb;have ha:a<=1000000:=by omega
 obtain ⟨len,hle⟩ :∃len,len=n.kids.length:=⟨_,rfl⟩;obtain ⟨nk,hnk⟩ :∃x,x=n.k:=⟨_,rfl⟩;obtain ⟨ns,hns⟩ :∃x,x=n.s:=⟨_,rfl⟩;rw [<- hle,<- hnk,<- hns];have HLEN:Hid (len=n.kids.length/\nk=n.k/\ns=n.s):=⟨hle,hnk,hns⟩;have hlen':len<=3100:=by omega
 have HB0:Hid (Below w.heap.size w (w.alloc (.cells #[.int .i64 nk,.int .i64 ns,.slice za len ca] 39))):=below_alloc _ _;have HEA:Hid ((w.alloc (.cells #[.int .i64 nk,.int .i64 ns,.slice za len ca] 39)).heap[w.heap.size]? = some (.cells #[.int .i64 nk,.int .i64 ns,.slice za len ca] 39 (0,0))):=heap_new' w _;clear HR hb hr hle hnk hns hlen hs0;by_cases hk1:nk=1
 · have hk1':(nk==1)=true:=by simpa using hk1
   have hs0:0<=ns:=by rw [HLEN.out.2.2];exact HS0.out (by rw [<- HLEN.out.2.1];exact hk1)
   obtain ⟨si,rfl⟩ :∃si:Nat,ns=(si:Int):=⟨ns.toNat,by omega⟩;have HE:Hid (r=rmS (a:Int) (si:Int)):=by
    show _=_;rw [HRE.out,if_pos (by rw [<- HLEN.out.2.1];exact hk1),HLEN.out.2.2]
   by_cases h1:a<si
   · have HE2:Hid (r=-1):=by show _=_;rw [HE.out];unfold rmS;rw [if_pos (by omega)]
     clear hk1;go_enter Tryz.func33,Tryz.ntmps33;go_wp2;go_ret;rw [HE2.out];exact ⟨rfl,HB0.out⟩
   · by_cases h2:a<si+1
     · have HE2:Hid (r=(si:Int)+1):=by show _=_;rw [HE.out];unfold rmS;rw [if_neg (by omega),if_pos (by omega)]
       have hmx:(if (a:Int)<(si:Int)+1 then (si:Int)+1 else (a:Int))=(si:Int)+1:=if_pos (by omega);clear hk1;go_enter Tryz.func33,Tryz.ntmps33;go_wp2;go_ret;rw [HE2.out];exact ⟨by first | rfl | rw [hmx] | (simp;omega),HB0.out⟩
     · have HE2:Hid (r=(a:Int)):=by show _=_;rw [HE.out];unfold rmS;rw [if_neg (by omega),if_neg (by omega)]
       have hmx:(if (a:Int)<(si:Int)+1 then (si:Int)+1 else (a:Int))=(a:Int):=if_neg (by omega);clear hk1;go_enter Tryz.func33,Tryz.ntmps33;go_wp2;go_ret;rw [HE2.out];exact ⟨by first | rfl | rw [hmx] | (simp;omega),HB0.out⟩
 · have hk1':(nk==1)=false:=by simpa using hk1
   have HE:Hid (r=rmL (rmN f) (a:Int) n.kids):=by
    show _=_;rw [HRE.out,if_neg (by rw [<- HLEN.out.2.1];exact hk1)]
   clear hk1;go_enter Tryz.func33,Tryz.ntmps33;go_wp2
   go_loopw [1,5] (λx1 x5 wr=>∃(j:Nat) (av:Int),j<=len/\x5 = .int .i64 (j:Int)/\x1 = .int .i64 av/\Hid (r=rmL (rmN f) av (n.kids.drop j))/\-1<=av/\Hid (av+(((n.kids.drop j).map (Sz f)).sum:Nat)<=1000000)/\wr.heap[w.heap.size]? = some (.cells #[.int .i64 nk,.int .i64 ns,.slice za len ca] 39 (0,0))/\Below w.heap.size w wr) (λ_ x5 _=>len-(intOf x5).toNat)
   case atStart=>exact ⟨0,(a:Int),Nat.zero_le _,rfl,rfl,HE,by omega,(by have:=HBD.out;show _<=_;rw [List.drop_zero];omega),HEA.out,HB0.out⟩
   case round =>
    obtain ⟨j,av,hj,rfl,rfl,HD,hav,HZ,hEA,hB⟩:=hrel;have hlt:w.heap.size<wr.heap.size:=(Array.getElem?_eq_some_iff.1 hEA).1;have a2:wr.cell? ⟨w.heap.size,2,none⟩=some (.slice za len ca):=cell_of_row _ _ 2 _ _ _ hEA;have HEA':Hid (wr.heap[w.heap.size]? = some (.cells #[.int .i64 nk,.int .i64 ns,.slice za len ca] 39 (0,0))):=hEA;clear hEA;by_cases hjl:j<len
    · have hjn:j<n.kids.length:=by rw [<- HLEN.out.1];exact hjl
      have ed:n.kids.drop j=n.kids[j]::n.kids.drop (j+1):=List.drop_eq_getElem_cons hjn;by_cases hneg:av<0
      · obtain rfl:av=-1:=by omega
        have HE2:Hid (r=-1):=by
         show _=_;rw [HD.out];exact rmL_neg (by decide) _
        clear hneg ed;go_wp2;go_ret;rw [HE2.out];exact ⟨rfl,hB⟩
      · obtain ⟨an,rfl⟩ :∃an:Nat,av=(an:Int):=⟨av.toNat,by omega⟩;obtain ⟨hca,ga,oa,xa,ka,yk,ys,yl,rfl,hga,p0,p1,p2,hcall⟩:=HHR.out j hjn;have r0:wr.cell? ⟨ga,oa+j*3,none⟩=some (.int .i64 yk):=(hB.cell (p:=⟨ga,_,none⟩) hga).trans p0;have r1:wr.cell? ⟨ga,oa+j*3+1,none⟩=some (.int .i64 ys):=(hB.cell (p:=⟨ga,_,none⟩) hga).trans p1;have r2:wr.cell? ⟨ga,oa+j*3+2,none⟩=some (.slice xa yl ka):=(hB.cell (p:=⟨ga,_,none⟩) hga).trans p2;have hga':ga<wr.heap.size:=Nat.lt_of_lt_of_le hga hB.size;have hj0:(0:Int)<=(j:Int):=by omega
        have hj1:(j:Int)<(len:Int):=by omega
        have hca2:len<=ca:=by rw [HLEN.out.1];exact hca
        have HZ1:Hid ((an:Int)+(Sz f n.kids[j]:Nat)+(((n.kids.drop (j+1)).map (Sz f)).sum:Nat)<=1000000):=by
         have h5:=HZ.out;rw [ed] at h5;simp only [List.map_cons,List.sum_cons] at h5;show _<=_;omega
        have HD1:Hid (r=rmL (rmN f) (rmN f (an:Int) n.kids[j]) (n.kids.drop (j+1))):=by
         show _=_;rw [HD.out,ed,rmL,if_neg (by omega)]
        have hcl:=hcall an wr (by have:=HZ1.out;omega) hB;have HRM:Hid (rmN f (an:Int) n.kids[j]<=(an:Int)+(Sz f n.kids[j]:Int)/\-1<=rmN f (an:Int) n.kids[j]):=rmN_le (by omega);obtain ⟨nv,hnv⟩ :∃x,x=rmN f (an:Int) n.kids[j]:=⟨_,rfl⟩;rw [<- hnv] at hcl HD1 HRM;have hdd:decide ((an:Int) ≥ 0)=true:=by simp
        clear p0 p1 p2 hcall hca ed hneg hnv HD HZ
        go_wp2_with fail
        refine hcl.mono ?_;rintro e w1 ⟨rfl,hB1⟩;clear hcl;have HZ2:Hid (nv+(((n.kids.drop (j+1)).map (Sz f)).sum:Nat)<=1000000):=by
         have:=HZ1.out;have:=HRM.out.1;show _<=_;omega
        go_wp2
        go_roundw
        case rel=>exact ⟨j+1,nv,by omega,by go_num,rfl,HD1,HRM.out.2,HZ2,(hB1.block _ hlt).trans HEA'.out,below_after hB hB1⟩
        case measure=>simp [intOf];omega
    · have HE2:Hid (r=av):=by
       show _=_;rw [HD.out,List.drop_eq_nil_of_le (by rw [<- HLEN.out.1];omega)];rfl
      go_wp2;go_ret;rw [HE2.out];exact ⟨rfl,hB⟩
theorem met_any:∀(d:Nat) (n:Nd) (z:Value) (a b:Nat) (w:World),Dp d n.kids->SIn d b n->a+Sz d n<=1000000->KdX (λk=>k<w.heap.size) w z n.kids ->
 Calls Tryz.prog 33 #[ndV n z,.int .i64 (a:Int)] w λe w'=>e = .returned (.int .i64 (rmN d (a:Int) n))/\Below w.heap.size w w'
 | 0,n,z,a,b,w,hd,hs,hb,hz=>by
  obtain ⟨za,ca,rfl,_⟩:=hz.slice;have h0:n.kids=[]:=hd;have hb':a+1<=1000000:=hb;refine met_body n za ca 0 a _ (by rw [h0];simp) (by rw [h0];simp;omega) w (λh=>(hs h).1) ?_ (λi hi=>by rw [h0] at hi;cases hi);rw [h0];rfl
 | d+1,n,z,a,b,w,hd,hs,hb,hz=>by
  obtain ⟨za,ca,rfl,_⟩:=hz.slice;have hb':a+(1+(n.kids.map (Sz d)).sum)<=1000000:=hb;refine met_body n za ca d a _ hd.1 hb' w (λh=>(hs.1 h).1) rfl (λi hi => ?_);obtain ⟨g,off,cap,z',e1,e2,e3,e4,e5,e6,e7⟩:=hz.at i hi;obtain ⟨rfl,_,rfl⟩:za=some ⟨g,off,none⟩/\n.kids.length=n.kids.length/\ca=cap:=by simpa using e1
  obtain ⟨xa,xc,rfl,_⟩:=e7.slice;refine ⟨e2,g,off,xa,xc,rfl,e3,e4,e5,e6,λa' W h1 hB => ?_⟩;exact met_any d n.kids[i] _ a' b W (hd.2 _ (List.getElem_mem hi)) (hs.2 _ (List.getElem_mem hi)) h1 (e7.to (λk hk=>⟨hB.block k hk,Nat.lt_of_lt_of_le hk hB.size⟩))
end Go.Proofs.YtfdjchnckjgapaaGreatDoor
