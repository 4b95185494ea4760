/-
  RTkn EdgM RSetP
-/
import Derived.Test.YtfdjchnckjgapaaGreatDoorZ14
import Derived.Test.YtfdjchnckjgapaaGreatDoorZ22
namespace Go.Proofs.YtfdjchnckjgapaaGreatDoor
set_option maxHeartbeats 4000000
set_option maxRecDepth 100000
open Go.RowKit Go.Shelf S1
set_option linter.unusedVariables false
theorem now_any (c:Pc) (X:Nat->Prop) (P:Nat) (w:World) (t:Tok) (r:List Tok) (st:Sts) (d:Nat) (hpa:Pa c X P w (t::r) st d) :
 Calls Tryz.prog 22 #[.pointer (some ⟨P,0,none⟩)] w λe w'=>∃v,e = .returned (tokV t v)/\RngS (Im X w P) w v t.s/\Below w.heap.size w w':=by
 have hPl:=hpa.lt;obtain ⟨k,v,hk,hn,hc,c0,c1,f1,hg,t0,t1,t2,t3,hr,_⟩:=hpa.next;obtain ⟨va,vc,rfl⟩:=hr.slice;have HR:Hid (RngS (Im X w P) w (.slice va t.s.length vc) t.s):=hr;clear hr hpa;go_enter Tryz.func22,Tryz.ntmps22;go_wp2
 go_region
 go_wp2;refine bodyPost_ret (results_row_one rfl _ _ w.heap.size 54 #[.int .i64 t.k,.int .i64 (t.p:Int),.string (strOfNums t.t),.slice va t.s.length vc] (0,0) _ rfl ?_ Tryz.underlying54 rfl (by kernel_rfl)) rfl ?_
 · exact heap_new' w _
 exact ⟨_,rfl,HR.out,below_drewN' (below_alloc w _) 1⟩
section
variable (c : Pc) (X : Nat → Prop) (P : Nat) (w : World) (t : Tok) (r : List Tok) (st : Sts) (d : Nat)
theorem fail_any {ts:List Tok} (hpa:Pa c X P w ts st d) (x:Nat) (hx:x<=20):Calls Tryz.prog 47 #[.pointer (some ⟨P,0,none⟩),.int .i64 (x:Int)] w λe w'=>e = .returned (.tuple #[])/\Pa c X P w' ts st (if d=0 then x else d)/\Fr w.heap.size P w w':=by
 have hPl:=hpa.lt;obtain ⟨c5,f5,hd⟩:=hpa.dep;have HP:Hid (Pa c X P w ts st d):=hpa;clear hpa;by_cases h0:d=0
 · subst h0;simp only [if_true];go_enter Tryz.func47,Tryz.ntmps47;go_wp2
   go_end0
   exact ⟨rfl,HP.out.deep x hx,fr_own w 5 (by decide) _⟩
 · have h0':((d:Int)==0)=false:=by simp;omega
   rw [if_neg h0];clear h0;go_enter Tryz.func47,Tryz.ntmps47;go_wp2
   go_end0
   exact ⟨rfl,HP.out,Fr.refl _ _ _⟩
theorem ris_any (hpa:Pa c X P w (t::r) st d) (x:Int) (hx:0<=x/\x<=255):Calls Tryz.prog 88 #[.pointer (some ⟨P,0,none⟩),.string (strOfNums [x])] w λe w'=>AnsB w (decide (d=0)&&tkSign x t) e w':=by
 have h1:=now_any c X P w t r st d hpa;obtain ⟨c5,_,_⟩:=hpa.dep;obtain ⟨_,_,_,_,_,_,_,_,_,_,_,_,_,_,_,hby,_,_⟩:=hpa.next;have he:((strOfNums t.t).toList==(strOfNums [x]).toList)=decide (t.t=[x]):=strNums_eq hby (λy hy=>by simp at hy;omega);have hPl:=hpa.lt;obtain ⟨b,hb⟩ :∃b,b=(decide (d=0)&&tkSign x t):=⟨_,rfl⟩;rw [<- hb];have HB:Hid (b=(decide (d=0)&&(t.k==2&&t.t == [x]))):=hb;have HP:Hid (Pa c X P w (t::r) st d):=hpa;clear hb hpa hby;go_enter Tryz.func88,Tryz.ntmps88
 go_wp2_with fail
 refine h1.mono ?_;rintro e w1 ⟨v,rfl,hr,hB⟩;obtain ⟨va,vc,rfl⟩:=hr.slice;have c51:w1.cell? ⟨P,5,none⟩=some (.int .i64 (d:Int)):=(HP.out.below hB).dep.1;have hPl1:P<w1.heap.size:=Nat.lt_of_lt_of_le hPl hB.size;clear h1 hr c5;unfold tokV;by_cases h0:d=0
 · have h0':((d:Int)==0)=true:=by simp [h0]
   cases h2:(t.k==2) with
   | false =>
    have HB2:Hid (b=false):=by
     show _=_;rw [HB.out,h2];simp
    clear h0;go_wp2;go_ret;rw [HB2.out];exact ⟨rfl,below_after hB (below_alloc _ _)⟩
   | true =>
    by_cases h3:t.t=[x]
    · have HB2:Hid (b=true):=by
       show _=_;rw [HB.out,h2,h3];simp [h0]
      rw [decide_eq_true h3] at he;clear h3 h0;go_wp2;go_ret;rw [HB2.out];exact ⟨rfl,below_after hB (below_alloc _ _)⟩
    · have HB2:Hid (b=false):=by
       show _=_;rw [HB.out,h2];simp [h3]
      rw [decide_eq_false h3] at he;clear h3 h0;go_wp2;go_ret;rw [HB2.out];exact ⟨rfl,below_after hB (below_alloc _ _)⟩
 · have h0':((d:Int)==0)=false:=by simp;omega
   have HB2:Hid (b=false):=by
    show _=_;rw [HB.out];simp [h0]
   clear h0;go_wp2;go_ret;rw [HB2.out];exact ⟨rfl,below_after hB (below_alloc _ _)⟩
def rtR (x:Int) (d:Nat) (t:Tok) (r:List Tok):List Tok:=if d=0 then (if tkSign x t=true then r else t::r) else t::r
def rtD (x:Int) (d:Nat) (t:Tok):Nat:=if d=0 then (if tkSign x t=true then 0 else 6) else d
theorem rtake_any (hpa:Pa c X P w (t::r) st d) (x:Int) (hx:0<=x/\x<=255):Calls Tryz.prog 48 #[.pointer (some ⟨P,0,none⟩),.string (strOfNums [x])] w λe w'=>e = .returned (.tuple #[])/\Pa c X P w' (rtR x d t r) st (rtD x d t)/\Fr w.heap.size P w w':=by
 have h1:=ris_any c X P w t r st d hpa x hx;have HP:Hid (Pa c X P w (t::r) st d):=hpa;obtain ⟨rr,hrr⟩ :∃rr,rr=rtR x d t r:=⟨_,rfl⟩;obtain ⟨dd,hdd⟩ :∃dd,dd=rtD x d t:=⟨_,rfl⟩;rw [<- hrr,<- hdd];have HRR:Hid (rr=rtR x d t r/\dd=rtD x d t):=⟨hrr,hdd⟩;clear hpa hrr hdd;go_enter Tryz.func48,Tryz.ntmps48;by_cases h0:d=0/\tkSign x t=true
 · obtain ⟨rfl,hs⟩:=h0;rw [hs] at h1;have HE:Hid (rr=r/\dd=0):=⟨by rw [HRR.out.1];simp [rtR,hs],by rw [HRR.out.2];simp [rtD,hs]⟩;have HK:Hid (t.k≠4):=sign_end hs;clear hs
   go_wp2_with fail
   refine h1.mono ?_;rintro e w1 ⟨rfl,hB⟩;clear h1;have hp1:=HP.out.below hB;obtain ⟨k,v,hk,hn,hc,c0,c1,f1,hg,t0,t1,t2,t3,hr,_,_,_,hnx⟩:=hp1.next;have HN:Hid (Pa c X P (w1.setCell ⟨P,1,none⟩ (.int .i64 ((k:Int)+1))) r st 0):=hnx HK.out;have HF:Hid (Fr w.heap.size P w w1):=HP.out.fr hB;have hPl:=hp1.lt;clear hr hnx hp1 hB t0 t1 t2 t3 c0;go_wp2
   go_end0
   rw [HE.out.1,HE.out.2];exact ⟨rfl,HN.out,HF.out.then (fr_own (n:=w1.heap.size) w1 1 (by decide) _) HF.out.size⟩
 · have hf:(decide (d=0)&&tkSign x t)=false:=by
    by_cases q:d=0
    · cases q2:tkSign x t with
      | true=>exact absurd ⟨q,q2⟩ h0
      | false=>simp
    · simp [q]
   rw [hf] at h1;have HE:Hid (rr=t::r/\dd=if d=0 then 6 else d):=by
    refine ⟨?_,?_⟩
    · rw [HRR.out.1];unfold rtR
      split
      · rename_i q;rw [if_neg (λq2=>h0 ⟨q,q2⟩)]
      · rfl
    · rw [HRR.out.2];unfold rtD
      split
      · rename_i q;rw [if_neg (λq2=>h0 ⟨q,q2⟩)]
      · rfl
   clear hf h0
   go_wp2_with fail
   refine h1.mono ?_;rintro e w1 ⟨rfl,hB⟩;clear h1;have h2:Calls Tryz.prog 47 #[.pointer (some ⟨P,0,none⟩),.int .i64 6] w1 λe w'=>e = .returned (.tuple #[])/\Pa c X P w' (t::r) st (if d=0 then 6 else d)/\Fr w1.heap.size P w1 w':=fail_any c X P w1 st d (HP.out.below hB) 6 (by decide);obtain ⟨d2,hd2⟩ :∃d2,d2=(if d=0 then 6 else d):=⟨_,rfl⟩;rw [<- hd2] at h2 HE;have HF:Hid (Fr w.heap.size P w w1):=HP.out.fr hB;clear hd2 hB
   go_wp2_with fail
   refine h2.mono ?_;rintro e w2 ⟨rfl,hp2,hf2⟩;clear h2;go_wp2
   first | go_end0 | (refine bodyPost_ret (by simp [results,Tryz.f48,go_sem];rfl) rfl ?_)
   rw [HE.out.1,HE.out.2];exact ⟨rfl,hp2,HF.out.then hf2 HF.out.size⟩
end
end Go.Proofs.YtfdjchnckjgapaaGreatDoor
namespace Go.Proofs.YtfdjchnckjgapaaGreatDoor
open Go.RowKit Go.Shelf S1
set_option linter.unusedVariables false
def Stb (E:List Int) (s:List Rg):Prop:=∀x,1<=x->x<=1114111->x ∉ E->hasR s x=hasR s (x-1)
def GS (E:List Int) (s:List Rg):Prop:=IsSet s/\Stb E s
theorem nodup_le:∀ {l m:List Int},l.Nodup->(∀x∈l,x∈m)->l.length<=m.length
 | [],m,_,_=>Nat.zero_le _
 | a::l,m,hn,hs=>by
  have ha:=hs a (by simp);have h1:∀x∈l,x∈m.erase a:=λx hx=>by
   have hne:x≠a:=λq=>by
    subst q;exact (List.nodup_cons.1 hn).1 hx
   exact (List.mem_erase_of_ne hne).2 (hs x (by simp [hx]))
  have h2:=nodup_le (List.nodup_cons.1 hn).2 h1;rw [List.length_erase_of_mem ha] at h2;have h3:0<m.length:=List.length_pos_of_mem ha;simp only [List.length_cons];omega
theorem norm_los:∀ {l:List Rg} {b:Int},NormFrom b l->(l.map Rg.lo).Nodup/\∀x∈l,b<=x.lo
 | [],b,_=>⟨by simp,λx hx=>(by cases hx)⟩
 | r::l,b,h=>by
  obtain ⟨i1,i2⟩:=norm_los h.2.2;refine ⟨List.nodup_cons.2 ⟨λq => ?_,i1⟩,λx hx => ?_⟩
  · obtain ⟨x,hx,e⟩:=List.mem_map.1 q;have:=i2 x hx;have:=h.2.1;omega
  · rcases List.mem_cons.1 hx with rfl | hx
    · exact h.1
    · have:=i2 x hx;have:=h.2.1;have:=h.1;omega
theorem norm_edge:∀ {l:List Rg} {b:Int},NormFrom b l->∀r∈l,hasR l r.lo=true/\hasR l (r.lo-1)=false
 | [],b,_,r,h=>by cases h
 | s::l,b,hn,r,h=>by
  rcases List.mem_cons.1 h with rfl | h
  · refine ⟨hasR_iff.2 ⟨r,by simp,by omega,hn.2.1⟩,?_⟩;cases q:hasR (r::l) (r.lo-1) with
    | false=>rfl
    | true =>
     rw [hasR_cons,Bool.or_eq_true] at q;rcases q with q | q
     · have:=(of_decide_eq_true q).1;omega
     · have:=hn.2.2.ge q;have:=hn.2.1;omega
  · obtain ⟨i1,i2⟩:=norm_edge hn.2.2 r h;have hlo:=(norm_los hn.2.2).2 r h;refine ⟨by rw [hasR_cons,i1];simp,?_⟩;rw [hasR_cons,i2,Bool.or_false];apply decide_eq_false;omega
theorem stb_len {E:List Int} {s:List Rg} (h:IsSet s) (hs:Stb E s):s.length<=E.length+1:=by
 have h1:=norm_los h.1;have h2:∀x∈s.map Rg.lo,x∈0::E:=λx hx=>by
  obtain ⟨r,hr,rfl⟩:=List.mem_map.1 hx;have hf:=h.fits r hr;by_cases q:r.lo=0
  · rw [q];simp
  · by_cases q2:r.lo∈E
    · simp [q2]
    · have h3:=hs r.lo (by omega) (by omega) q2;obtain ⟨e1,e2⟩:=norm_edge h.1 r hr;rw [e1,e2] at h3;cases h3
 have h3:=nodup_le h1.1 h2;simpa using h3
theorem stb_pick {E:List Int} {g:Bool->Bool->Bool} {a b:List Rg} (ha:GS E a) (hb:GS E b):GS E (pickS g a b):=by
 have hu:=pickS_upto g ha.1 hb.1;refine ⟨hu.isSet,λx h1 h2 h3 => ?_⟩;have e1:decide (0<=x/\x<1114112/\g (hasR a x) (hasR b x)=true)=g (hasR a x) (hasR b x):=by
  cases g (hasR a x) (hasR b x) with
  | true=>apply decide_eq_true;exact ⟨by omega,by omega,rfl⟩
  | false=>apply decide_eq_false;rintro ⟨_,_,q⟩;cases q
 have e2:decide (0<=x-1/\x-1<1114112/\g (hasR a (x-1)) (hasR b (x-1))=true)=g (hasR a (x-1)) (hasR b (x-1)):=by
  cases g (hasR a (x-1)) (hasR b (x-1)) with
  | true=>apply decide_eq_true;exact ⟨by omega,by omega,rfl⟩
  | false=>apply decide_eq_false;rintro ⟨_,_,q⟩;cases q
 rw [hu.2 x,hu.2 (x-1),e1,e2,ha.2 x h1 h2 h3,hb.2 x h1 h2 h3]
theorem GS.nil (E:List Int):GS E []:=⟨IsSet.nil,λx _ _ _=>rfl⟩
theorem GS.all (E:List Int):GS E allS:=⟨allS_set,λx h1 h2 _=>by
 have:∀y:Int,0<=y->y<=1114111->hasR allS y=true:=λy h1 h2=>hasR_iff.2 ⟨⟨0,1114111⟩,by simp [allS],h1,h2⟩;rw [this x (by omega) h2,this (x-1) (by omega) (by omega)]⟩
def edgesOf (L:List Rg):List Int:=L.flatMap λr=>[r.lo,r.hi+1]
theorem edgesOf_len:∀(L:List Rg),(edgesOf L).length=2*L.length
 | []=>rfl
 | r::L=>by
  have e:edgesOf (r::L)=[r.lo,r.hi+1]++edgesOf L:=rfl;rw [e,List.length_append,edgesOf_len L];simp;omega
theorem stb_mk {L l:List Rg} (hf:Fits l) (hl:∀r∈l,r∈L):GS (edgesOf L) (mkS l):=by
 have hu:Upto (λx=>hasR l x) (mkS l) 1114112:=pick_spec l [] hf (λx hx=>(by cases hx)) (λx _=>x);refine ⟨hu.isSet,λx h1 h2 h3 => ?_⟩;have key:hasR l x=hasR l (x-1):=by
  cases q:hasR l x with
  | true =>
   obtain ⟨r,hr,a1,a2⟩:=hasR_iff.1 q
   symm
   refine hasR_iff.2 ⟨r,hr,?_,by omega⟩;have:x≠r.lo:=λe=>h3 (by rw [e];exact List.mem_flatMap.2 ⟨r,hl r hr,by simp⟩);omega
  | false =>
   symm
   cases q2:hasR l (x-1) with
   | false=>rfl
   | true =>
    obtain ⟨r,hr,a1,a2⟩:=hasR_iff.1 q2;have:x≠r.hi+1:=λe=>h3 (by rw [e];exact List.mem_flatMap.2 ⟨r,hl r hr,by simp⟩);have:hasR l x=true:=hasR_iff.2 ⟨r,hr,by omega,by omega⟩;rw [this] at q;cases q
 rw [hu.2 x,hu.2 (x-1)];simp only [key];apply decide_eq_decide.2;constructor
 · rintro ⟨_,_,c⟩;exact ⟨by omega,by omega,c⟩
 · rintro ⟨_,_,c⟩;exact ⟨by omega,by omega,c⟩
def entsOf (l:List Tok):List Rg:=l.flatMap Tok.s
theorem setF_count {n:Nat}:∀ {k:Nat} {us r:List U} {acc l:List Rg},setF n k us acc=SR.good l r->l.length+r.length<=acc.length+us.length
 | 0,us,r,acc,l,h=>by cases h
 | k+1,us,r,acc,l,h=>by
  cases h1:sgn (isC 93) us with
  | mk o s=>cases o with
   | some x =>
    rw [setF_end h1] at h;obtain ⟨e1,e2⟩:=Prod.mk.inj (Sum.inr.inj h);have:=sgn_len h1;rw [<- e1,<- e2];omega
   | none=>cases h2:entL us with
    | mk o2 r2=>cases o2 with
     | none=>rw [setF_stuck h1 h2] at h;cases h
     | some e =>
      cases h3:(decide (e.hi<e.lo)||decide (1114111<e.hi)) with
      | true=>rw [setF_arg h1 h2 h3] at h;cases h
      | false =>
       rw [setF_on h1 h2 h3] at h;have h4:=setF_count h;have h5:=entL_len h2;simp only [List.length_append,List.length_cons,List.length_nil] at h4;omega
theorem tokO_count {n:Nat} {us r:List U} {t:Tok} (h:tokO n us=OR.good t r):t.s.length+r.length<=us.length:=by
 match us,h with
 | [],h =>
  obtain ⟨e1,e2⟩:=Prod.mk.inj (Sum.inr.inj (show OR.good ⟨4,n,[],[]⟩ []=OR.good t r from h));rw [<- e1,<- e2];simp
 | u::us,h =>
  rw [tokO_cons] at h
  split at h
  · obtain ⟨e1,e2⟩:=Prod.mk.inj (Sum.inr.inj h);rw [<- e1,<- e2];have:=dropWhile_le (fitU nameR) us;simp;omega
  · split at h
    · obtain ⟨e1,e2⟩:=Prod.mk.inj (Sum.inr.inj h);rw [<- e1,<- e2];simp
    · split at h
      · cases h1:setF n (us.length+1) us [] with
        | inl x=>rw [h1] at h;cases h
        | inr x =>
         obtain ⟨l,s⟩:=x;rw [h1] at h;obtain ⟨e1,e2⟩:=Prod.mk.inj (Sum.inr.inj h);have:=setF_count h1;rw [<- e1,<- e2];simp at this ⊢;omega
      · cases h
theorem toksF_count {n:Nat}:∀ {k:Nat} {us:List U} {acc l:List Tok},toksF n k us acc=TR.good l->(entsOf l).length<=(entsOf acc).length+us.length
 | 0,us,acc,l,h=>by cases h
 | k+1,us,acc,l,h=>by
  have hbl:=blankL_le false us;cases h1:tokO n (blankL false us) with
  | inl x=>obtain ⟨a,e⟩:=x;rw [toksF_bad h1] at h;cases h
  | inr x =>
   obtain ⟨t,r⟩:=x;have hc:=tokO_count h1;have he:∀(acc:List Tok) (t:Tok),(entsOf (acc++[t])).length=(entsOf acc).length+t.s.length:=λacc t=>by simp [entsOf]
   by_cases h4:t.k=4
   · rw [toksF_end h1 h4] at h;obtain rfl:=Sum.inr.inj h;rw [he];omega
   · rw [toksF_on h1 h4] at h;have:=toksF_count h;rw [he] at this;omega
theorem toks_count {zs:List Int} {us:List U} (hr:Run zs 0 us zs.length) {l:List Tok} (h:toksL zs.length us=TR.good l):(entsOf l).length<=zs.length:=by
 have hlen:=Run.le hr (Nat.zero_le _);have:=toksF_count (show toksF zs.length (us.length+1) us []=TR.good l from h);simp [entsOf] at this ⊢;omega
set_option maxHeartbeats 8000000
set_option maxRecDepth 100000
theorem strB_eq {x:List Int} (hx:Byt x) (y:List Int) (hy:Byt y) {l:List UInt8} (hl:(y.map λn=>UInt8.ofNat n.toNat)=l):((strOfNums x).toList==l)=decide (x=y):=by
 have:=strNums_eq hx hy;rw [strL y,hl] at this;exact this
def keptB (x:List Int):Bool:=decide (x=wSet)||(decide (x=wBreak)||decide (x=wKeep))
theorem kept_any (x:List Int) (hx:Byt x) (w:World):Calls Tryz.prog 46 #[.string (strOfNums x)] w λe w'=>e = .returned (.bool (keptB x))/\w=w':=by
 have s1:((strOfNums x).toList==([115,101,116]:List UInt8))=decide (x=wSet):=strB_eq hx wSet byt_set rfl;have s2:((strOfNums x).toList==([98,114,101,97,107]:List UInt8))=decide (x=wBreak):=strB_eq hx wBreak byt_break rfl;have s3:((strOfNums x).toList==([107,101,101,112]:List UInt8))=decide (x=wKeep):=strB_eq hx wKeep byt_keep rfl;obtain ⟨b,hb⟩ :∃b,b=keptB x:=⟨_,rfl⟩;rw [<- hb];have HB:Hid (b=keptB x):=hb;clear hb;by_cases q1:x=wSet
 · rw [decide_eq_true q1] at s1;have HE:Hid (b=true):=by show _=_;rw [HB.out];simp [keptB,q1]
   clear q1 s2 s3;go_enter Tryz.func46,Tryz.ntmps46;go_wp2;go_ret;rw [HE.out];exact ⟨rfl,rfl⟩
 · rw [decide_eq_false q1] at s1;by_cases q2:x=wBreak
   · rw [decide_eq_true q2] at s2;have HE:Hid (b=true):=by show _=_;rw [HB.out];simp [keptB,q2]
     clear q1 q2 s3;go_enter Tryz.func46,Tryz.ntmps46;go_wp2;go_ret;rw [HE.out];exact ⟨rfl,rfl⟩
   · rw [decide_eq_false q2] at s2;by_cases q3:x=wKeep
     · rw [decide_eq_true q3] at s3;have HE:Hid (b=true):=by show _=_;rw [HB.out];simp [keptB,q3]
       clear q1 q2 q3;go_enter Tryz.func46,Tryz.ntmps46;go_wp2;go_ret;rw [HE.out];exact ⟨rfl,rfl⟩
     · rw [decide_eq_false q3] at s3;have HE:Hid (b=false):=by show _=_;rw [HB.out];simp [keptB,q1,q2,q3]
       clear q1 q2 q3;go_enter Tryz.func46,Tryz.ntmps46;go_wp2;go_ret;rw [HE.out];exact ⟨rfl,rfl⟩
theorem name_kept {t:Tok}:tkName t=(t.k==1 && !keptB t.t):=by
 unfold tkName tkRule tkWord keptB;cases h:(t.k==1) with
 | false=>simp
 | true =>
  by_cases a:t.t=wSet<;>by_cases b:t.t=wBreak<;>by_cases c:t.t=wKeep<;>simp [a,b,c]
theorem all_any8 (w:World):Calls Tryz.prog 150 #[] w λe w'=>∃v,e = .returned v/\w'.ownsRow w.heap.size 94 2 v allS.length (cellsRs allS)/\Below w.heap.size w w':=by
 have HB:Hid (Below w.heap.size w (w.alloc (.cells #[.int .i64 0,.int .i64 1114111] 94))):=below_alloc _ _;have HO:Hid ((w.alloc (.cells #[.int .i64 0,.int .i64 1114111] 94)).ownsRow w.heap.size 94 2 (.slice (some ⟨w.heap.size,0,none⟩) 1 1) allS.length (cellsRs allS)):=⟨rfl,.inr ⟨w.heap.size,1,_,rfl,Nat.le_refl _,heap_new' _ _,Nat.le_refl _,by unfold maxLen;omega,rfl,rfl⟩⟩;go_enter Tryz.func150,Tryz.ntmps150;go_wp2;go_ret;exact ⟨_,rfl,HO.out,HB.out⟩
def RSA (c:Pc) (X:Nat->Prop) (P:Nat) (t:Tok) (r:List Tok) (st:Sts) (d:Nat) (w:World) (e:Ending) (w':World):Prop :=
 Fr w.heap.size P w w'/\((d=0/\∃s v,setM c.N t = .inr s/\IsSet s/\RngS (Im X w' P) w' v s/\e = .returned (.tuple #[v,.bool true])/\Pa c X P w' (t::r) st 0) \/
  (e = .returned (.tuple #[.slice none 0 0,.bool false])/\∃x,Pa c X P w' (t::r) st x/\((d≠0/\x=d)\/(d=0/\x=0/\setM c.N t = .inl 6)\/(d=0/\x=4/\setM c.N t = .inl 4))))
theorem rset_any (c:Pc) (X:Nat->Prop) (P:Nat) (w:World) (t:Tok) (r:List Tok) (st:Sts) (d:Nat) (hpa:Pa c X P w (t::r) st d) :
 Calls Tryz.prog 125 #[.pointer (some ⟨P,0,none⟩)] w λe w'=>RSA c X P t r st d w e w':=by
 have h1:=now_any c X P w t r st d hpa;have HPA:Hid (Pa c X P w (t::r) st d):=hpa;obtain ⟨_,_,_,_,_,_,_,_,_,_,_,_,_,_,hset,hby,hln,_⟩:=hpa.next;have HBY:Hid (Byt t.t/\t.t.length<=70000):=⟨hby,hln⟩;have HSET:Hid (IsSet t.s):=hset;have hPl:=hpa.lt;have s46:((strOfNums t.t).toList==([46]:List UInt8))=decide (t.t=[46]):=strB_eq hby [46] (λy hy=>by simp at hy;omega) rfl;clear hpa hset hby hln;go_enter Tryz.func125,Tryz.ntmps125
 go_wp2_with fail
 refine h1.mono ?_;rintro e w1 ⟨v,rfl,hr,hB⟩;obtain ⟨va,vc,rfl⟩:=hr.slice;have HR:Hid (RngS (Im X w P) w (.slice va t.s.length vc) t.s):=hr;clear h1 hr;unfold tokV;have hB2:Below w.heap.size w (w1.alloc (.cells #[.int .i64 t.k,.int .i64 (t.p:Int),.string (strOfNums t.t),.slice va t.s.length vc] 54)):=below_after hB (below_alloc _ _);have HP2:Hid (Pa c X P (w1.alloc (.cells #[.int .i64 t.k,.int .i64 (t.p:Int),.string (strOfNums t.t),.slice va t.s.length vc] 54)) (t::r) st d):=HPA.out.below hB2;have HB2:Hid (Below w.heap.size w (w1.alloc (.cells #[.int .i64 t.k,.int .i64 (t.p:Int),.string (strOfNums t.t),.slice va t.s.length vc] 54))):=hB2;have HF2:Hid (Fr w.heap.size P w (w1.alloc (.cells #[.int .i64 t.k,.int .i64 (t.p:Int),.string (strOfNums t.t),.slice va t.s.length vc] 54))):=HPA.out.fr hB2;have c5:w1.cell? ⟨P,5,none⟩=some (.int .i64 (d:Int)):=(HPA.out.below hB).dep.1;have hPl1:P<w1.heap.size:=Nat.lt_of_lt_of_le hPl hB.size;clear hB2;by_cases h0:d=0
 · subst h0;by_cases h3:t.k=3
   · have h3':(t.k==3)=true:=by simpa using h3
     have HE:Hid (setM c.N t = .inr t.s):=setM_set h3;clear h3;go_wp2
     go_ret2
     exact ⟨HF2.out,.inl ⟨rfl,t.s,_,HE.out,HSET.out,HR.out.fr HF2.out,rfl,HP2.out⟩⟩
   · have h3':(t.k==3)=false:=by simpa using h3
     have H3:Hid (¬t.k=3):=h3;clear h3;cases h4:tkSign 46 t with
     | true =>
      obtain ⟨q1,q2⟩:=sign_k h4;have h2':(t.k==2)=true:=by simpa using q1
      rw [decide_eq_true q2] at s46;have HE:Hid (setM c.N t = .inr allS):=setM_all H3.out h4;have h5:=all_any8 (w1.alloc (.cells #[.int .i64 t.k,.int .i64 (t.p:Int),.string (strOfNums t.t),.slice va t.s.length vc] 54));clear q1 q2
      go_wp2_with fail
      refine h5.mono ?_;rintro e w3 ⟨v3,rfl,ho,hB3⟩;have hr3:=HP2.out.rngS hB3 ho;obtain ⟨a3,c3,rfl⟩:=hr3.slice;clear h5 ho;go_wp2
      go_ret2
      exact ⟨HF2.out.then (HP2.out.fr hB3) HF2.out.size,.inl ⟨rfl,allS,_,HE.out,allS_set,hr3,rfl,HP2.out.below hB3⟩⟩
     | false =>
      have H4:Hid (tkSign 46 t=false):=h4;have hcase:(t.k==2)=false\/((t.k==2)=true/\((strOfNums t.t).toList==([46]:List UInt8))=false):=by
       cases q:(t.k==2) with
       | false=>exact .inl rfl
       | true =>
        refine .inr ⟨rfl,?_⟩;rw [s46];apply decide_eq_false;intro q2;unfold tkSign at h4;rw [q,q2] at h4;simp at h4
      clear s46 h4;have hnm:=name_kept (t:=t);by_cases hk1:t.k=1
      · have hk1':(t.k != 1)=false:=by simpa using hk1
        have hk12:(t.k==1)=true:=by simpa using hk1
        have hk2:(t.k==2)=false:=by rw [beq_eq_false_iff_ne,hk1];decide
        rw [hk12] at hnm;have h5:=kept_any t.t HBY.out.1 (w1.alloc (.cells #[.int .i64 t.k,.int .i64 (t.p:Int),.string (strOfNums t.t),.slice va t.s.length vc] 54));clear hk1 hk12 hcase;cases hkp:keptB t.t with
        | true =>
         rw [hkp] at h5 hnm;have HE:Hid (setM c.N t = .inl 6):=setM_bad H3.out H4.out (by rw [hnm];rfl);clear hnm
         go_wp2_with fail
         refine h5.mono ?_;rintro e w3 ⟨rfl,rfl⟩;clear h5;go_wp2
         go_ret2
         exact ⟨HF2.out,.inr ⟨rfl,0,HP2.out,.inr (.inl ⟨rfl,rfl,HE.out⟩)⟩⟩
        | false =>
         rw [hkp] at h5 hnm;have HNM:Hid (tkName t=true):=by show _=_;rw [hnm];rfl
         clear hnm;obtain ⟨hmc,hnms⟩:=HP2.out.names;rcases (nms_drew hnms).look t.t HBY.out.1 HBY.out.2 with ⟨hN,v4,hrun⟩ | ⟨s,v4,hN,hs,hr4,hrun⟩
         · have HE:Hid (setM c.N t = .inl 4):=setM_none H3.out H4.out HNM.out hN;have hpd:Pa c X P (w1.alloc (.cells #[.int .i64 t.k,.int .i64 (t.p:Int),.string (strOfNums t.t),.slice va t.s.length vc] 54)).drew (t::r) st 0:=HP2.out.below ((Below.refl _ _).drew);have h6:Calls Tryz.prog 47 #[.pointer (some ⟨P,0,none⟩),.int .i64 4] (w1.alloc (.cells #[.int .i64 t.k,.int .i64 (t.p:Int),.string (strOfNums t.t),.slice va t.s.length vc] 54)).drew λe w'=>e = .returned (.tuple #[])/\Pa c X P w' (t::r) st 4/\Fr (w1.alloc (.cells #[.int .i64 t.k,.int .i64 (t.p:Int),.string (strOfNums t.t),.slice va t.s.length vc] 54)).drew.heap.size P (w1.alloc (.cells #[.int .i64 t.k,.int .i64 (t.p:Int),.string (strOfNums t.t),.slice va t.s.length vc] 54)).drew w':=fail_any c X P _ st 0 hpd 4 (by decide);have HFD:Hid (Fr w.heap.size P w (w1.alloc (.cells #[.int .i64 t.k,.int .i64 (t.p:Int),.string (strOfNums t.t),.slice va t.s.length vc] 54)).drew):=HF2.out.then (HP2.out.fr ((Below.refl _ _).drew)) HF2.out.size
           clear hN hnms hpd;have hmc1:w1.cell? ⟨P,2,none⟩=some (.map (some c.mb)):=(HPA.out.below hB).names.1
           go_wp2_with fail
           refine h5.mono ?_;rintro e w3 ⟨rfl,rfl⟩;clear h5;go_wp2
           go_region
           go_wp2_with fail
           refine h6.mono ?_;rintro e w4 ⟨rfl,hp4,hf4⟩;clear h6;go_wp2
           go_ret2
           exact ⟨HFD.out.then hf4 HFD.out.size,.inr ⟨rfl,4,hp4,.inr (.inr ⟨rfl,rfl,HE.out⟩)⟩⟩
         · have HE:Hid (setM c.N t = .inr s):=setM_some H3.out H4.out HNM.out hN;have HRS:Hid (IsSet s/\RngS (Im X (w1.alloc (.cells #[.int .i64 t.k,.int .i64 (t.p:Int),.string (strOfNums t.t),.slice va t.s.length vc] 54)) P) (w1.alloc (.cells #[.int .i64 t.k,.int .i64 (t.p:Int),.string (strOfNums t.t),.slice va t.s.length vc] 54)).drew v4 s):=⟨hs,hr4⟩;have HPD:Hid (Pa c X P (w1.alloc (.cells #[.int .i64 t.k,.int .i64 (t.p:Int),.string (strOfNums t.t),.slice va t.s.length vc] 54)).drew (t::r) st 0):=HP2.out.below ((Below.refl _ _).drew);have HFD:Hid (Fr w.heap.size P w (w1.alloc (.cells #[.int .i64 t.k,.int .i64 (t.p:Int),.string (strOfNums t.t),.slice va t.s.length vc] 54)).drew):=HF2.out.then (HP2.out.fr ((Below.refl _ _).drew)) HF2.out.size
           clear hN hnms hs hr4;have hmc1:w1.cell? ⟨P,2,none⟩=some (.map (some c.mb)):=(HPA.out.below hB).names.1
           go_wp2_with fail
           refine h5.mono ?_;rintro e w3 ⟨rfl,rfl⟩;clear h5;go_wp2
           go_region
           go_wp2
           go_ret2
           exact ⟨HFD.out,.inl ⟨rfl,s,v4,HE.out,HRS.out.1,HRS.out.2,rfl,HPD.out⟩⟩
      · have hk1':(t.k != 1)=true:=by simpa using hk1
        have hk12:(t.k==1)=false:=by simpa using hk1
        have HE:Hid (setM c.N t = .inl 6):=setM_bad H3.out H4.out (by rw [hnm,hk12];rfl);clear hk1 hk12 hnm;rcases hcase with h2' | ⟨h2',h6'⟩
        · go_wp2
          go_ret2
          exact ⟨HF2.out,.inr ⟨rfl,0,HP2.out,.inr (.inl ⟨rfl,rfl,HE.out⟩)⟩⟩
        · go_wp2
          go_ret2
          exact ⟨HF2.out,.inr ⟨rfl,0,HP2.out,.inr (.inl ⟨rfl,rfl,HE.out⟩)⟩⟩
 · have h0':((d:Int) != 0)=true:=by simp;omega
   have H0:Hid (d≠0):=h0;clear h0;go_wp2
   go_ret2
   exact ⟨HF2.out,.inr ⟨rfl,d,HP2.out,.inl ⟨H0.out,rfl⟩⟩⟩
end Go.Proofs.YtfdjchnckjgapaaGreatDoor
