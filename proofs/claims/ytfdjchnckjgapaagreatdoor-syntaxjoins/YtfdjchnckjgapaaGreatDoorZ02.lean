/-
  Rng RngCount RMath Mem
-/
import Derived.WalkKit
import Derived.Test.YtfdjchnckjgapaaGreatDoorRows
import Derived.WalkSpells
import Derived.OwnWalk
import Derived.Outline
import Derived.Maps.AppendAt
import Derived.Deep.RegionHeld3
import Derived.Deep.AppendLies
import Derived.Laws.Rows
import Derived.Laws.AppendOwnNone
import Derived.RangeFuncBox
import Derived.Deep.QuietTactic
namespace Go.Proofs.YtfdjchnckjgapaaGreatDoor
open Go.RowKit
set_option linter.unusedVariables false
structure Rg where
 lo:Int
 hi:Int
def hasR (a:List Rg) (x:Int):Bool:=a.any λr=>decide (r.lo<=x/\x<=r.hi)
theorem hasR_iff {a:List Rg} {x:Int}:hasR a x=true↔∃r∈a,r.lo<=x/\x<=r.hi:=by
 simp [hasR]
theorem hasR_cons (r:Rg) (a:List Rg) (x:Int):hasR (r::a) x=(decide (r.lo<=x/\x<=r.hi)||hasR a x):=rfl
theorem hasR_append (a b:List Rg) (x:Int):hasR (a++b) x=(hasR a x||hasR b x):=by simp [hasR]
def NormFrom (b:Int):List Rg->Prop
 | []=>True
 | r::l=>b<=r.lo/\r.lo<=r.hi/\NormFrom (r.hi+2) l
theorem NormFrom.mono {b c:Int} (h:c<=b):∀ {l:List Rg},NormFrom b l->NormFrom c l
 | [],_=>trivial
 | r::l,k=>⟨Int.le_trans h k.1,k.2⟩
theorem NormFrom.ge:∀ {l:List Rg} {b x:Int},NormFrom b l->hasR l x=true->b<=x
 | [],b,x,_,h=>by simp [hasR] at h
 | r::l,b,x,k,h=>by
  rw [hasR_cons,Bool.or_eq_true] at h;rcases h with h | h
  · have:=of_decide_eq_true h;have:=k.1;omega
  · have:=NormFrom.ge k.2.2 h;have:=k.1;have:=k.2.1;omega
theorem NormFrom.unique:∀ {a c:List Rg} {b:Int},NormFrom b a->NormFrom b c->(∀x,hasR a x=hasR c x)->a=c
 | [],[],_,_,_,_=>rfl
 | [],s::c,b,_,k,h=>by
  have:=h s.lo;rw [hasR_cons,decide_eq_true (⟨Int.le_refl _,k.2.1⟩:s.lo<=s.lo/\s.lo<=s.hi)] at this;simp [hasR] at this
 | r::a,[],b,k,_,h=>by
  have:=h r.lo;rw [hasR_cons,decide_eq_true (⟨Int.le_refl _,k.2.1⟩:r.lo<=r.lo/\r.lo<=r.hi)] at this;simp [hasR] at this
 | r::a,s::c,b,k,m,h=>by
  have hr:hasR (r::a) r.lo=true:=by rw [hasR_cons,decide_eq_true (⟨Int.le_refl _,k.2.1⟩:r.lo<=r.lo/\r.lo<=r.hi)];rfl
  have hs:hasR (s::c) s.lo=true:=by rw [hasR_cons,decide_eq_true (⟨Int.le_refl _,m.2.1⟩:s.lo<=s.lo/\s.lo<=s.hi)];rfl
  have e1:r.lo=s.lo:=by
   have h1:s.lo<=r.lo:=NormFrom.ge (b:=s.lo) (l:=s::c) ⟨Int.le_refl _,m.2⟩ (by rw [<- h];exact hr);have h2:r.lo<=s.lo:=NormFrom.ge (b:=r.lo) (l:=r::a) ⟨Int.le_refl _,k.2⟩ (by rw [h];exact hs);omega
  have below:∀ {l:List Rg} {t x:Int},NormFrom t l->x<t->hasR l x=false:=by
   intro l t x hn hx;cases q:hasR l x with
   | false=>rfl
   | true=>have:=NormFrom.ge hn q;omega
  have e2:r.hi=s.hi:=by
   rcases Int.lt_trichotomy r.hi s.hi with q | q | q
   · have h3:=h (r.hi+1);have f1:hasR (r::a) (r.hi+1)=false:=by
      rw [hasR_cons,below k.2.2 (by omega),decide_eq_false (by omega)];rfl
     have f2:hasR (s::c) (r.hi+1)=true:=by
      rw [hasR_cons,decide_eq_true (by have:=k.2.1;omega)];rfl
     rw [f1,f2] at h3;cases h3
   · exact q
   · have h3:=h (s.hi+1);have f1:hasR (s::c) (s.hi+1)=false:=by
      rw [hasR_cons,below m.2.2 (by omega),decide_eq_false (by omega)];rfl
     have f2:hasR (r::a) (s.hi+1)=true:=by
      rw [hasR_cons,decide_eq_true (by have:=m.2.1;omega)];rfl
     rw [f1,f2] at h3;cases h3
  have er:r=s:=by cases r;cases s;simp only at e1 e2;rw [e1,e2]
  subst er;have ht:∀x,hasR a x=hasR c x:=by
   intro x;by_cases q:x<r.hi+2
   · rw [below k.2.2 q,below m.2.2 q]
   · have:=h x;rw [hasR_cons,hasR_cons,decide_eq_false (by omega)] at this;simpa using this
  rw [NormFrom.unique k.2.2 m.2.2 ht]
theorem NormFrom.snoc:∀ {l:List Rg} {b:Int} {r:Rg},NormFrom b l->b<=r.lo->r.lo<=r.hi->(∀x,hasR l x=true->x+2<=r.lo)->NormFrom b (l++[r])
 | [],b,r,_,hb,hr,_=>⟨hb,hr,trivial⟩
 | s::l,b,r,h,hb,hr,hx=>by
  refine ⟨h.1,h.2.1,NormFrom.snoc h.2.2 ?_ hr (λx q=>hx x (by rw [hasR_cons,q];simp))⟩;exact hx s.hi (by rw [hasR_cons,decide_eq_true (⟨h.2.1,Int.le_refl _⟩:s.lo<=s.hi/\s.hi<=s.hi)];rfl)
def insE:List Int->Int->List Int
 | [],n=>[n]
 | y::l,n=>if y<n then y::insE l n else if y=n then y::l else n::y::l
def Up:List Int->Prop
 | []=>True
 | [_]=>True
 | a::b::l=>a<b/\Up (b::l)
theorem mem_insE:∀ {l:List Int} {n x:Int},x∈insE l n↔x=n\/x∈l
 | [],n,x=>by simp [insE]
 | y::l,n,x=>by
  unfold insE
  split
  · rw [List.mem_cons,mem_insE,List.mem_cons];constructor
    · rintro (h | h | h)
      · exact .inr (.inl h)
      · exact .inl h
      · exact .inr (.inr h)
    · rintro (h | h | h)
      · exact .inr (.inl h)
      · exact .inl h
      · exact .inr (.inr h)
  · split
    · rename_i q;subst q;simp
    · simp
theorem Up.lt:∀ {l:List Int} {a:Int},Up (a::l)->∀x∈l,a<x
 | [],a,_,x,h=>by cases h
 | b::l,a,h,x,hx=>by
  rcases List.mem_cons.1 hx with e | e
  · rw [e];exact h.1
  · have:=Up.lt h.2 x e;have:=h.1;omega
theorem Up.cons {a:Int}:∀ {l:List Int},Up l->(∀x∈l,a<x)->Up (a::l)
 | [],_,_=>trivial
 | b::l,h,ha=>⟨ha b (by simp),h⟩
theorem Up.tail {a:Int}:∀ {l:List Int},Up (a::l)->Up l
 | [],_=>trivial
 | b::l,h=>h.2
theorem up_insE:∀ {l:List Int} {n:Int},Up l->Up (insE l n)
 | [],n,_=>trivial
 | y::l,n,h=>by
  unfold insE
  split
  · rename_i q;refine Up.cons (up_insE h.tail) (λx hx => ?_);rcases mem_insE.1 hx with e | e
    · rw [e];exact q
    · exact h.lt x e
  · split
    · exact h
    · refine Up.cons h (λx hx => ?_);rcases List.mem_cons.1 hx with e | e
      · omega
      · have:=h.lt x e;omega
theorem insE_length:∀(l:List Int) (n:Int),(insE l n).length<=l.length+1
 | [],n=>by simp [insE]
 | y::l,n=>by
  have:=insE_length l n;unfold insE
  repeat' split
  all_goals simp only [List.length_cons];omega
def stepE (out:List Int) (r:Rg):List Int:=if r.hi<1114111 then insE (insE out r.lo) (r.hi+1) else insE out r.lo
def edgesL (l:List Rg):List Int:=l.foldl stepE [0]
theorem up_step {out:List Int} (r:Rg) (h:Up out):Up (stepE out r):=by
 unfold stepE
 split
 · exact up_insE (up_insE h)
 · exact up_insE h
theorem mem_step {out:List Int} {r:Rg} {x:Int}:x∈stepE out r↔x=r.lo\/(x=r.hi+1/\r.hi<1114111)\/x∈out:=by
 unfold stepE
 split
 · rename_i q;rw [mem_insE,mem_insE];constructor
   · rintro (h | h | h)
     · exact .inr (.inl ⟨h,q⟩)
     · exact .inl h
     · exact .inr (.inr h)
   · rintro (h | ⟨h,_⟩ | h)
     · exact .inr (.inl h)
     · exact .inl h
     · exact .inr (.inr h)
 · rename_i q;rw [mem_insE];constructor
   · rintro (h | h)
     · exact .inl h
     · exact .inr (.inr h)
   · rintro (h | ⟨_,h⟩ | h)
     · exact .inl h
     · exact absurd h q
     · exact .inr h
theorem edges_facts:∀(l:List Rg) (out:List Int),Up out->Up (l.foldl stepE out)/\∀x,x∈l.foldl stepE out↔x∈out\/∃r∈l,x=r.lo\/(x=r.hi+1/\r.hi<1114111)
 | [],out,h=>⟨h,λx=>by simp⟩
 | r::l,out,h=>by
  obtain ⟨h1,h2⟩:=edges_facts l (stepE out r) (up_step r h);refine ⟨h1,λx => ?_⟩;rw [List.foldl_cons,h2 x,mem_step];constructor
  · rintro ((q | q | q) | ⟨s,hs,q⟩)
    · exact .inr ⟨r,by simp,.inl q⟩
    · exact .inr ⟨r,by simp,.inr q⟩
    · exact .inl q
    · exact .inr ⟨s,by simp [hs],q⟩
  · rintro (q | ⟨s,hs,q⟩)
    · exact .inl (.inr (.inr q))
    · rcases List.mem_cons.1 hs with e | e
      · subst e;rcases q with q | q
        · exact .inl (.inl q)
        · exact .inl (.inr (.inl q))
      · exact .inr ⟨s,e,q⟩
def withL (out:List Rg) (lo hi:Int):List Rg:=match out.getLast? with
 | some r=>if r.hi=lo-1 then out.dropLast++[⟨r.lo,hi⟩] else out++[⟨lo,hi⟩]
 | none=>out++[⟨lo,hi⟩]
def pickGo (f:Int->Bool):List Int->List Rg->List Rg
 | [],out=>out
 | [e],out=>if f e=true then withL out e 1114111 else out
 | e::e'::l,out=>pickGo f (e'::l) (if f e=true then withL out e (e'-1) else out)
def Upto (f:Int->Bool) (out:List Rg) (e:Int):Prop:=NormFrom 0 out/\∀x,hasR out x=decide (0<=x/\x<e/\f x=true)
theorem NormFrom.front:∀ {l m:List Rg} {b:Int},NormFrom b (l++m)->NormFrom b l
 | [],m,b,_=>trivial
 | r::l,m,b,h=>⟨h.1,h.2.1,NormFrom.front h.2.2⟩
theorem NormFrom.last:∀ {l:List Rg} {b:Int} {r:Rg},NormFrom b (l++[r])->b<=r.lo/\r.lo<=r.hi/\∀x,hasR l x=true->x+2<=r.lo
 | [],b,r,h=>⟨h.1,h.2.1,λx q=>by simp [hasR] at q⟩
 | s::l,b,r,h=>by
  have ih:=NormFrom.last h.2.2;have h1:=h.1;have h2:=h.2.1;refine ⟨by have:=ih.1;omega,ih.2.1,λx q => ?_⟩;rw [hasR_cons,Bool.or_eq_true] at q;rcases q with q | q
  · have:=of_decide_eq_true q;have:=ih.1;omega
  · exact ih.2.2 x q
theorem Upto.with {f:Int->Bool} {out:List Rg} {lo hi:Int} (h:Upto f out lo) (h0:0<=lo) (hl:lo<=hi) (hf:∀x,lo<=x->x<=hi->f x=true):Upto f (withL out lo hi) (hi+1):=by
 have hx:∀x,hasR out x=true->x<lo:=λx q=>by
  rw [h.2 x] at q;exact (of_decide_eq_true q).2.1
 have hno:∀x,hasR out x=false->0<=x->x<lo->f x=false:=λx q q0 q1=>by
  rw [h.2 x] at q;have:=of_decide_eq_false q;cases e:f x with
  | false=>rfl
  | true=>exact absurd ⟨q0,q1,e⟩ this
 have fin:∀(res:List Rg),NormFrom 0 res->(∀x,hasR res x=true↔hasR out x=true\/(lo<=x/\x<=hi))->Upto f res (hi+1):=by
  intro res hn hr;refine ⟨hn,λx => ?_⟩;rw [Bool.eq_iff_iff,hr x,h.2 x,decide_eq_true_eq,decide_eq_true_eq];constructor
  · rintro (⟨q0,q1,q2⟩ | ⟨q0,q1⟩)
    · exact ⟨q0,by omega,q2⟩
    · exact ⟨by omega,by omega,hf x q0 q1⟩
  · rintro ⟨q0,q1,q2⟩;by_cases q:x<lo
    · exact .inl ⟨q0,q,q2⟩
    · exact .inr ⟨by omega,by omega⟩
 unfold withL;cases hg:out.getLast? with
 | none =>
  have e:out=[]:=List.getLast?_eq_none_iff.1 hg;subst e;refine fin _ ⟨h0,hl,trivial⟩ (λx => ?_);simp [hasR]
 | some r =>
  obtain ⟨ini,rfl⟩:=List.getLast?_eq_some_iff.1 hg;have hla:=h.1.last;have hlt:r.hi<lo:=hx r.hi (by rw [hasR_append];simp [hasR,hla.2.1])
  dsimp only
  split
  · rename_i q;rw [List.dropLast_concat];refine fin _ (NormFrom.snoc h.1.front hla.1 (show r.lo<=hi by have:=hla.2.1;omega) hla.2.2) (λx => ?_);rw [hasR_append,hasR_append];simp only [hasR,List.any_cons,List.any_nil,Bool.or_false,Bool.or_eq_true,decide_eq_true_eq];constructor
    · rintro (z | z)
      · exact .inl (.inl z)
      · by_cases w:x<=r.hi
        · exact .inl (.inr ⟨z.1,w⟩)
        · exact .inr ⟨by omega,z.2⟩
    · rintro ((z | z) | z)
      · exact .inl z
      · exact .inr ⟨z.1,by omega⟩
      · exact .inr ⟨by have:=hla.2.1;omega,z.2⟩
  · rename_i q;refine fin _ (NormFrom.snoc h.1 h0 hl (λx z => ?_)) (λx => ?_)
    · rw [hasR_append,Bool.or_eq_true] at z;rcases z with z | z
      · have:=hla.2.2 x z;have:=hla.2.1;show x+2<=lo;omega
      · simp only [hasR,List.any_cons,List.any_nil,Bool.or_false,decide_eq_true_eq] at z;show x+2<=lo;omega
    · rw [hasR_append];simp [hasR]
def Still (f:Int->Bool):List Int->Prop
 | []=>True
 | [e]=>e<=1114111/\∀x,e<=x->x<=1114111->f x=f e
 | e::e'::l=>e<e'/\(∀x,e<=x->x<e'->f x=f e)/\Still f (e'::l)
theorem Upto.skip {f:Int->Bool} {out:List Rg} {lo hi:Int} (h:Upto f out lo) (hl:lo<=hi) (hf:∀x,lo<=x->x<hi->f x=false):Upto f out hi:=by
 refine ⟨h.1,λx => ?_⟩;rw [h.2 x];apply decide_eq_decide.2;constructor
 · rintro ⟨a,b,c⟩;exact ⟨a,by omega,c⟩
 · rintro ⟨a,b,c⟩;refine ⟨a,?_,c⟩;by_cases q:x<lo
   · exact q
   · have:=hf x (by omega) b;rw [this] at c;cases c
theorem pickGo_spec {f:Int->Bool}:∀(l:List Int) (e:Int) (out:List Rg),0<=e->Still f (e::l)->Upto f out e->Upto f (pickGo f (e::l) out) 1114112
 | [],e,out,h0,hs,hu=>by
  unfold pickGo
  split
  · rename_i q;exact hu.with h0 hs.1 (λx a b=>by rw [hs.2 x a b];exact q)
  · rename_i q;exact hu.skip (by have:=hs.1;omega) (λx a b=>by rw [hs.2 x a (by omega)];simpa using q)
 | e'::l,e,out,h0,hs,hu=>by
  unfold pickGo;refine pickGo_spec l e' _ (by have:=hs.1;omega) hs.2.2 ?_;have h1:=hs.1
  split
  · rename_i q;have:=hu.with (hi:=e'-1) h0 (by omega) (λx a b=>by rw [hs.2.1 x a (by omega)];exact q)
    rwa [Int.sub_add_cancel] at this
  · rename_i q;exact hu.skip (by omega) (λx a b=>by rw [hs.2.1 x a b];simpa using q)
theorem still_of {f:Int->Bool}:∀(l:List Int) (e:Int) (E:Int->Prop),Up (e::l)->(∀y∈e::l,y<=1114111)->(∀y,E y->y<=e\/y∈l)->(∀d x,d<=x->x<=1114111->d∈e::l->(∀y,E y->y<=d\/x<y)->f x=f d)->Still f (e::l)
 | [],e,E,hu,hm,hE,hf=>⟨hm e (by simp),λx a b=>hf e x a b (by simp) (λy hy=>by
  rcases hE y hy with q | q
  · exact .inl q
  · cases q)⟩
 | e'::l,e,E,hu,hm,hE,hf=>by
  refine ⟨hu.1,λx a b=>hf e x a (by have:=hm e' (by simp);omega) (by simp) (λy hy => ?_),still_of l e' E hu.2 (λy hy=>hm y (by simp [List.mem_cons.1 hy])) (λy hy => ?_) (λd x a b c k=>hf d x a b (by simp [List.mem_cons.1 c]) k)⟩
  · rcases hE y hy with q | q
    · exact .inl q
    · rcases List.mem_cons.1 q with q | q
      · exact .inr (by omega)
      · have:=hu.2.lt y q;exact .inr (by omega)
  · rcases hE y hy with q | q
    · exact .inl (by have:=hu.1;omega)
    · rcases List.mem_cons.1 q with q | q
      · exact .inl (by omega)
      · exact .inr q
def Fits (l:List Rg):Prop:=∀r∈l,0<=r.lo/\r.lo<=r.hi/\r.hi<=1114111
theorem pick_spec (a b:List Rg) (ha:Fits a) (hb:Fits b) (g:Bool->Bool->Bool) :
 Upto (λx=>g (hasR a x) (hasR b x)) (pickGo (λx=>g (hasR a x) (hasR b x)) (edgesL (a++b)) []) 1114112:=by
 obtain ⟨hu,hm⟩:=edges_facts (a++b) [0] trivial;have hfit:Fits (a++b):=λr hr=>(List.mem_append.1 hr).elim (ha r) (hb r);have hge:∀x∈edgesL (a++b),0<=x/\x<=1114111:=λx hx=>by
  rcases (hm x).1 hx with q | ⟨r,hr,q | ⟨q,q2⟩⟩
  · have:x=0:=by simpa using q
    omega
  · have:=hfit r hr;omega
  · have:=hfit r hr;omega
 have h0:(0:Int)∈edgesL (a++b):=(hm 0).2 (.inl (by simp));show Upto _ (pickGo _ (edgesL (a++b)) []) 1114112;cases hE:edgesL (a++b) with
 | nil=>rw [hE] at h0;cases h0
 | cons e l =>
  have hup:Up (e::l):=by rw [<- hE];exact hu
  have he:e=0:=by
   rw [hE] at h0;have h1:=(hge e (by rw [hE];simp)).1;rcases List.mem_cons.1 h0 with q | q
   · exact q.symm
   · have:=hup.lt 0 q;omega
  subst he;have key:∀(c:List Rg),(∀r∈c,r∈a++b)->∀d x:Int,d<=x->x<=1114111->(∀y,y∈edgesL (a++b)->y<=d\/x<y)->hasR c x=hasR c d:=by
   intro c hc d x h1 h2 h3;rw [Bool.eq_iff_iff,hasR_iff,hasR_iff];constructor
   · rintro ⟨r,hr,q1,q2⟩;refine ⟨r,hr,?_,by omega⟩;rcases h3 r.lo ((hm _).2 (.inr ⟨r,hc r hr,.inl rfl⟩)) with z | z
     · exact z
     · omega
   · rintro ⟨r,hr,q1,q2⟩;refine ⟨r,hr,by omega,?_⟩;have hf:=hfit r (hc r hr);by_cases z:r.hi<1114111
     · rcases h3 (r.hi+1) ((hm _).2 (.inr ⟨r,hc r hr,.inr ⟨rfl,z⟩⟩)) with y | y
       · omega
       · omega
     · omega
  refine pickGo_spec l 0 [] (Int.le_refl _) (still_of l 0 (λy=>y∈edgesL (a++b)) hup (λy hy=>(hge y (by rw [hE];exact hy)).2) (λy hy => ?_) (λd x h1 h2 _ h3 => ?_)) ⟨trivial,λx => ?_⟩
  · rw [hE] at hy;rcases List.mem_cons.1 hy with q | q
    · exact .inl (by omega)
    · exact .inr q
  · show g (hasR a x) (hasR b x)=g (hasR a d) (hasR b d);rw [key a (λr hr=>List.mem_append.2 (.inl hr)) d x h1 h2 h3,key b (λr hr=>List.mem_append.2 (.inr hr)) d x h1 h2 h3]
  · symm
    have:hasR ([]:List Rg) x=false:=rfl;rw [this];apply decide_eq_false;omega
theorem Upto.unique {f:Int->Bool} {a c:List Rg} {e:Int} (h:Upto f a e) (k:Upto f c e):a=c :=
 NormFrom.unique h.1 k.1 (λx=>by rw [h.2 x,k.2 x])
theorem Upto.hi {f:Int->Bool} {a:List Rg} {e:Int} (h:Upto f a e):∀r∈a,0<=r.lo/\r.lo<=r.hi/\r.hi<e:=by
 have key:∀ {l:List Rg} {b:Int},NormFrom b l->∀r∈l,b<=r.lo/\r.lo<=r.hi:=by
  intro l
  induction l with
  | nil=>intro b _ r hr;cases hr
  | cons s l ih =>
   intro b k r hr;rcases List.mem_cons.1 hr with q | q
   · rw [q];exact ⟨k.1,k.2.1⟩
   · have:=ih k.2.2 r q;have:=k.1;have:=k.2.1;omega
 intro r hr;have h1:=key h.1 r hr;refine ⟨h1.1,h1.2,?_⟩;have h2:hasR a r.hi=true:=hasR_iff.2 ⟨r,hr,h1.2,Int.le_refl _⟩;rw [h.2 r.hi] at h2;exact (of_decide_eq_true h2).2.1
def addL (out:List Rg) (r:Rg):List Rg:=match out.getLast? with
 | some s=>if r.lo<=s.hi+1 then out.dropLast++[⟨s.lo,max s.hi r.hi⟩] else out++[r]
 | none=>out++[r]
theorem addL_nil (r:Rg):addL [] r=[r]:=rfl
theorem addL_join {ini:List Rg} {s r:Rg} (h:r.lo<=s.hi+1):addL (ini++[s]) r=ini++[⟨s.lo,max s.hi r.hi⟩]:=by
 unfold addL;rw [List.getLast?_concat];simp [h]
theorem addL_snoc {ini:List Rg} {s r:Rg} (h:¬r.lo<=s.hi+1):addL (ini++[s]) r=ini++[s]++[r]:=by
 unfold addL;rw [List.getLast?_concat];simp [h]
theorem withL_nil (lo hi:Int):withL [] lo hi=[⟨lo,hi⟩]:=rfl
theorem withL_join {ini:List Rg} {s:Rg} {lo hi:Int} (h:s.hi=lo-1):withL (ini++[s]) lo hi=ini++[⟨s.lo,hi⟩]:=by
 unfold withL;rw [List.getLast?_concat];simp [h]
theorem withL_snoc {ini:List Rg} {s:Rg} {lo hi:Int} (h:¬s.hi=lo-1):withL (ini++[s]) lo hi=ini++[s]++[⟨lo,hi⟩]:=by
 unfold withL;rw [List.getLast?_concat];simp [h]
theorem list_last {α:Type} (l:List α):l=[]\/∃ini s,l=ini++[s]:=by
 cases h:l.getLast? with
 | none=>exact .inl (List.getLast?_eq_none_iff.1 h)
 | some s =>
  obtain ⟨ini,e⟩:=List.getLast?_eq_some_iff.1 h;exact .inr ⟨ini,s,e⟩
theorem add_with {f:Int->Bool} {out:List Rg} {lo hi:Int} (h:Upto f out lo) (hl:lo<=hi):addL out ⟨lo,hi⟩=withL out lo hi:=by
 rcases list_last out with rfl | ⟨ini,s,rfl⟩
 · rfl
 · have hs:=h.hi s (by simp);by_cases q:s.hi=lo-1
   · rw [withL_join q,addL_join (by show lo<=s.hi+1;omega)];have:max s.hi hi=hi:=Int.max_eq_right (by omega);show _=_
     dsimp only
     rw [this]
   · rw [withL_snoc q,addL_snoc (by show ¬lo<=s.hi+1;omega)]
def Grown (pre out:List Rg) (b:Int):Prop:=NormFrom 0 out/\(∀x,hasR out x=hasR pre x)/\(∀s∈out,s.lo<=b)
theorem Grown.add {pre out:List Rg} {b:Int} (h:Grown pre out b) (r:Rg) (h0:0<=r.lo) (hb:b<=r.lo) (hr:r.lo<=r.hi):Grown (pre++[r]) (addL out r) r.lo:=by
 obtain ⟨hn,hx,hs⟩:=h;rcases list_last out with rfl | ⟨ini,s,rfl⟩
 · rw [addL_nil];refine ⟨⟨h0,hr,trivial⟩,λx => ?_,λs hs => ?_⟩
   · rw [hasR_append,<- hx x];rfl
   · rw [List.mem_singleton.1 hs];exact Int.le_refl _
 · have hla:=hn.last;have hsl:s.lo<=r.lo:=by have:=hs s (by simp);omega
   by_cases q:r.lo<=s.hi+1
   · rw [addL_join q];have hm1:s.hi<=max s.hi r.hi:=Int.le_max_left _ _;have hm2:r.hi<=max s.hi r.hi:=Int.le_max_right _ _;have hm3:max s.hi r.hi=s.hi\/max s.hi r.hi=r.hi:=by rcases Int.le_total s.hi r.hi with z | z;exact .inr (Int.max_eq_right z);exact .inl (Int.max_eq_left z)
     refine ⟨NormFrom.snoc hn.front hla.1 (show s.lo<=max s.hi r.hi by have:=hla.2.1;omega) hla.2.2,λx => ?_,λt ht => ?_⟩
     · rw [hasR_append pre,<- hx x,hasR_append,hasR_append,Bool.or_assoc]
       congr 1
       simp only [hasR,List.any_cons,List.any_nil,Bool.or_false];rw [Bool.eq_iff_iff];simp only [Bool.or_eq_true,decide_eq_true_eq];constructor
       · rintro ⟨z1,z2⟩;by_cases z:x<=s.hi
         · exact .inl ⟨z1,z⟩
         · exact .inr ⟨by omega,by omega⟩
       · rintro (z | z)
         · exact ⟨z.1,by omega⟩
         · exact ⟨by omega,by omega⟩
     · rcases List.mem_append.1 ht with z | z
       · have:=hs t (List.mem_append.2 (.inl z));omega
       · rw [List.mem_singleton.1 z];exact hsl
   · rw [addL_snoc q];refine ⟨NormFrom.snoc hn h0 hr (λx z => ?_),λx => ?_,λt ht => ?_⟩
     · rw [hasR_append,Bool.or_eq_true] at z;rcases z with z | z
       · have:=hla.2.2 x z;have:=hla.2.1;omega
       · simp only [hasR,List.any_cons,List.any_nil,Bool.or_false,decide_eq_true_eq] at z;omega
     · rw [hasR_append,hasR_append pre,hx x]
     · rcases List.mem_append.1 ht with z | z
       · have:=hs t z;omega
       · rw [List.mem_singleton.1 z];exact Int.le_refl _
theorem Grown.upto {pre out:List Rg} {b:Int} (h:Grown pre out b) (hf:Fits pre):Upto (hasR pre) out 1114112:=by
 refine ⟨h.1,λx => ?_⟩;rw [h.2.1 x];cases q:hasR pre x with
 | false=>exact (decide_eq_false (λz=>by cases z.2.2)).symm
 | true =>
  obtain ⟨r,hr,z1,z2⟩:=hasR_iff.1 q;have:=hf r hr;exact (decide_eq_true ⟨by omega,by omega,rfl⟩).symm
theorem hasR_perm {a c:List Rg} (h:∀r,r∈a↔r∈c) (x:Int):hasR a x=hasR c x:=by
 rw [Bool.eq_iff_iff,hasR_iff,hasR_iff];constructor
 · rintro ⟨r,hr,z⟩;exact ⟨r,(h r).1 hr,z⟩
 · rintro ⟨r,hr,z⟩;exact ⟨r,(h r).2 hr,z⟩
theorem Upto.congr {f g:Int->Bool} {a:List Rg} {e:Int} (h:Upto f a e) (k:∀x,0<=x->x<e->f x=g x):Upto g a e:=by
 refine ⟨h.1,λx => ?_⟩;rw [h.2 x];apply decide_eq_decide.2;constructor
 · rintro ⟨a,b,c⟩;exact ⟨a,b,by rw [<- k x a b];exact c⟩
 · rintro ⟨a,b,c⟩;exact ⟨a,b,by rw [k x a b];exact c⟩
theorem Upto.fits {f:Int->Bool} {a:List Rg} (h:Upto f a 1114112):Fits a:=λr hr=>by
 have:=h.hi r hr;omega
theorem NormFrom.len:∀ {l:List Rg} {b:Int},NormFrom b l->∀(e:Int),b<=e->(∀r∈l,r.hi<e)->2*(l.length:Int)<=e-b+1
 | [],b,_,e,hb,_=>by simp;omega
 | r::l,b,h,e,hb,he=>by
  have h1:=h.1;have h2:=h.2.1;have h3:=he r (by simp);by_cases q:r.hi+2<=e
  · have:=NormFrom.len h.2.2 e q (λs hs=>he s (by simp [hs]));simp only [List.length_cons];omega
  · cases l with
    | nil=>simp;omega
    | cons s l =>
     have:=h.2.2.1;have:=h.2.2.2.1;have:=he s (by simp);omega
theorem Upto.len {f:Int->Bool} {a:List Rg} {e:Int} (h:Upto f a e) (h0:0<=e) (he:e<=1114112):a.length<=557056:=by
 have:=h.1.len e h0 (λr hr=>(h.hi r hr).2.2);omega
structure Stretch (a:List Rg) (low:Int) (is:Bool) (high:Int) (rest:List Rg):Prop where
 ge:low<=high
 le:high<=1114111
 same:∀x,low<=x->x<=high->hasR a x=is
 left:∀x,low<=x->hasR rest x=hasR a x
 fits:NormFrom 0 rest/\∀r∈rest,r.hi<=1114111
theorem hasR_drop {a:List Rg} {k:Nat} {low:Int} (h:∀r∈a.take k,r.hi<low) (x:Int) (hx:low<=x):hasR (a.drop k) x=hasR a x:=by
 conv=>rhs;rw [<- List.take_append_drop k a]
 rw [hasR_append];have:hasR (a.take k) x=false:=by
  cases q:hasR (a.take k) x with
  | false=>rfl
  | true =>
   obtain ⟨r,hr,z1,z2⟩:=hasR_iff.1 q;have:=h r hr;omega
 rw [this];rfl
theorem NormFrom.drop:∀ {a:List Rg} {b:Int} (k:Nat),NormFrom b a->NormFrom b (a.drop k)
 | a,b,0,h=>h
 | [],b,k+1,h=>trivial
 | r::a,b,k+1,h=>by
  exact (NormFrom.drop k h.2.2).mono (by have:=h.1;have:=h.2.1;omega)
theorem below_norm {l:List Rg} {t x:Int} (hn:NormFrom t l) (hx:x<t):hasR l x=false:=by
 cases q:hasR l x with
 | false=>rfl
 | true=>have:=NormFrom.ge hn q;omega
theorem stretch_none {a:List Rg} {k:Nat} {low:Int} (hlow:low<=1114111) (h:∀r∈a.take k,r.hi<low) (hk:a.drop k=[]):Stretch a low false 1114111 []:=by
 refine ⟨hlow,Int.le_refl _,λx h1 h2 => ?_,λx h1 => ?_,trivial,λr hr=>by cases hr⟩
 · rw [<- hasR_drop h x h1,hk];rfl
 · rw [<- hasR_drop h x h1,hk]
theorem stretch_out {a:List Rg} {k:Nat} {low:Int} {r:Rg} {t:List Rg} (hlow:low<=1114111) (hn:NormFrom 0 a) (hf:∀r∈a,r.hi<=1114111) (h:∀r∈a.take k,r.hi<low) (hk:a.drop k=r::t) (hl:low<r.lo):Stretch a low false (min (r.lo-1) 1114111) (r::t):=by
 have hnd:=hn.drop k;rw [hk] at hnd;have hr:r.hi<=1114111:=hf r (List.mem_of_mem_drop (i:=k) (by rw [hk];simp));have hm:min (r.lo-1) 1114111=r.lo-1:=Int.min_eq_left (by have:=hnd.2.1;omega);rw [hm];refine ⟨by omega,by have:=hnd.2.1;omega,λx h1 h2 => ?_,λx h1 => ?_,hnd,λs hs=>hf s (List.mem_of_mem_drop (i:=k) (by rw [hk];exact hs))⟩
 · rw [<- hasR_drop h x h1,hk];exact below_norm (t:=r.lo) ⟨Int.le_refl _,hnd.2⟩ (by omega)
 · rw [<- hasR_drop h x h1,hk]
theorem stretch_in {a:List Rg} {k:Nat} {low:Int} {r:Rg} {t:List Rg} (hlow:low<=1114111) (hn:NormFrom 0 a) (hf:∀r∈a,r.hi<=1114111) (h:∀r∈a.take k,r.hi<low) (hk:a.drop k=r::t) (hl:¬low<r.lo) (hh:low<=r.hi):Stretch a low true (min r.hi 1114111) (r::t):=by
 have hnd:=hn.drop k;rw [hk] at hnd;have hr:r.hi<=1114111:=hf r (List.mem_of_mem_drop (i:=k) (by rw [hk];simp));have hm:min r.hi 1114111=r.hi:=Int.min_eq_left hr;rw [hm];refine ⟨by omega,by omega,λx h1 h2 => ?_,λx h1 => ?_,hnd,λs hs=>hf s (List.mem_of_mem_drop (i:=k) (by rw [hk];exact hs))⟩
 · rw [<- hasR_drop h x h1,hk,hasR_cons,decide_eq_true (by omega)];rfl
 · rw [<- hasR_drop h x h1,hk]
theorem choose_step {g:Bool->Bool->Bool} {a b ra rb out ra' rb':List Rg} {low ha hb:Int} {ia ib:Bool} (h0:0<=low) (hu:Upto (λx=>g (hasR a x) (hasR b x)) out low)
 (ea:∀x,low<=x->hasR ra x=hasR a x) (eb:∀x,low<=x->hasR rb x=hasR b x) (sa:Stretch ra low ia ha ra') (sb:Stretch rb low ib hb rb') :
 low<=min ha hb/\min ha hb<=1114111/\Upto (λx=>g (hasR a x) (hasR b x)) (if g ia ib=true then addL out ⟨low,min ha hb⟩ else out) (min ha hb+1):=by
 have hl:low<=min ha hb:=by have:=sa.ge;have:=sb.ge;exact Int.le_min.2 ⟨by omega,by omega⟩
 have hm1:min ha hb<=ha:=Int.min_le_left _ _;have hm2:min ha hb<=hb:=Int.min_le_right _ _;have hv:∀x,low<=x->x<=min ha hb->g (hasR a x) (hasR b x)=g ia ib:=λx h1 h2=>by
  rw [<- ea x h1,<- eb x h1,sa.same x h1 (by omega),sb.same x h1 (by omega)]
 refine ⟨hl,by have:=sa.le;omega,?_⟩;by_cases q:g ia ib=true
 · rw [if_pos q,add_with hu hl];exact hu.with h0 hl (λx h1 h2=>by rw [hv x h1 h2];exact q)
 · rw [if_neg q];exact hu.skip (by omega) (λx h1 h2=>by rw [hv x h1 (by omega)];simpa using q)
theorem NormFrom.ord:∀ {l:List Rg} {b:Int},NormFrom b l->∀s∈l,b<=s.lo/\s.lo<=s.hi
 | [],b,_,s,hs=>by cases hs
 | t::l,b,k,s,hs=>by
  rcases List.mem_cons.1 hs with q | q
  · rw [q];exact ⟨k.1,k.2.1⟩
  · have:=NormFrom.ord k.2.2 s q;have:=k.1;have:=k.2.1;omega
def cellsR (r:Rg):List Value:=[.int .i64 r.lo,.int .i64 r.hi]
def cellsRs (l:List Rg):List Value:=l.flatMap cellsR
theorem cellsRs_snoc (l:List Rg) (r:Rg):cellsRs (l++[r])=cellsRs l++cellsR r:=by simp [cellsRs]
theorem cellsRs_append (l m:List Rg):cellsRs (l++m)=cellsRs l++cellsRs m:=by simp [cellsRs]
theorem cellsRs_length:∀(l:List Rg),(cellsRs l).length=l.length*2
 | []=>rfl
 | r::l=>by
  have e:cellsRs (r::l)=cellsR r++cellsRs l:=rfl;rw [e,List.length_append,cellsRs_length l];simp [cellsR];omega
theorem cellsRs_at:∀(l:List Rg) (i j:Nat) (h:i<l.length),j<2->(cellsRs l)[i*2+j]? = (cellsR l[i])[j]?
 | u::us,0,j,h,hj=>by
  have e:cellsRs (u::us)=cellsR u++cellsRs us:=rfl;rw [e,Nat.zero_mul,Nat.zero_add,List.getElem?_append_left (by simpa [cellsR] using hj)];rfl
 | u::us,i+1,j,h,hj=>by
  have e:cellsRs (u::us)=cellsR u++cellsRs us:=rfl;rw [e,List.getElem?_append_right (by simp [cellsR];omega)];have e2:(i+1)*2+j-(cellsR u).length=i*2+j:=by simp [cellsR];omega
  rw [e2,cellsRs_at us i j (by simpa using h) hj];rfl
theorem cellsRs_one (l:List Rg):∀u∈cellsRs l,u.oneCell'=true:=λu hu=>by
 obtain ⟨r,_,h⟩:=List.mem_flatMap.1 hu;simp [cellsR] at h;rcases h with rfl | rfl<;>rfl
def RngAt (n:Nat) (w:World) (v:Value) (l:List Rg):Prop :=
 ∃a cap,v = .slice a l.length cap/\l.length<=cap/\∀i,(h:i<l.length)->∃g off,a=some ⟨g,off,none⟩/\g<n/\w.cell? ⟨g,off+i*2,none⟩=some (.int .i64 l[i].lo)/\w.cell? ⟨g,off+i*2+1,none⟩=some (.int .i64 l[i].hi)
abbrev RngIn (w:World) (v:Value) (l:List Rg):Prop:=RngAt w.heap.size w v l
theorem RngAt.below {n:Nat} {w w':World} {v:Value} {l:List Rg} (h:RngAt n w v l) (hb:Below n w w'):RngAt n w' v l:=by
 obtain ⟨a,cap,rfl,hc,hi⟩:=h;refine ⟨a,cap,rfl,hc,λi hlt => ?_⟩;obtain ⟨g,off,rfl,hg,h0,h1⟩:=hi i hlt;exact ⟨g,off,rfl,hg,(hb.cell (p:=⟨g,off+i*2,none⟩) hg).trans h0,(hb.cell (p:=⟨g,off+i*2+1,none⟩) hg).trans h1⟩
theorem RngAt.mono {n m:Nat} {w:World} {v:Value} {l:List Rg} (h:RngAt n w v l) (hm:n<=m):RngAt m w v l:=by
 obtain ⟨a,cap,rfl,hc,hi⟩:=h;refine ⟨a,cap,rfl,hc,λi hlt => ?_⟩;obtain ⟨g,off,rfl,hg,h0,h1⟩:=hi i hlt;exact ⟨g,off,rfl,by omega,h0,h1⟩
theorem add_lit' (g j:Nat):(⟨g,0,none⟩:Addr).add j=⟨g,0+j,none⟩:=by unfold Addr.add;split<;>simp_all
theorem rng_of_row {w:World} {base:Nat} {v:Value} {l:List Rg} (h:w.ownsRow base 94 2 v l.length (cellsRs l)):RngIn w v l:=by
 rcases h.2 with ⟨rfl,h0⟩ | ⟨g,cap,cur,rfl,hb,hg,hc,hm,hs,ht⟩
 · exact ⟨none,0,by rw [h0],by omega,λi hi=>by omega⟩
 · refine ⟨_,cap,rfl,hc,λi hi=>⟨g,0,rfl,(Array.getElem?_eq_some_iff.1 hg).1,?_,?_⟩⟩
   · have hx:=cellsRs_at l i 0 hi (by omega);have:=h.cells (g:=g) rfl (i*2+0) (.int .i64 l[i].lo) (by rw [hx];rfl);rw [add_lit'] at this;exact this
   · have hx:=cellsRs_at l i 1 hi (by omega);have:=h.cells (g:=g) rfl (i*2+1) (.int .i64 l[i].hi) (by rw [hx];rfl);rw [add_lit'] at this;exact this
theorem RngIn.below {w w':World} {v:Value} {l:List Rg} (h:RngIn w v l) (hb:Below w.heap.size w w'):RngIn w' v l:=(RngAt.below h hb).mono hb.size
theorem RngAt.nil (n:Nat) (w:World):RngAt n w (.slice none 0 0) []:=⟨none,0,rfl,Nat.le_refl _,λi hi=>by cases hi⟩
theorem RngAt.empty {n:Nat} {w:World} (a:Option Addr) (cap:Nat):RngAt n w (.slice a 0 cap) []:=⟨a,cap,rfl,Nat.zero_le _,λi hi=>by cases hi⟩
theorem RngAt.tail {n:Nat} {w:World} {g off cap:Nat} {r:Rg} {l:List Rg} (h:RngAt n w (.slice (some ⟨g,off,none⟩) (l.length+1) cap) (r::l)):RngAt n w (.slice (some ⟨g,off+2,none⟩) l.length (cap-1)) l:=by
 obtain ⟨a,c,e,hc,hi⟩:=h;obtain ⟨rfl,_,rfl⟩:some ⟨g,off,none⟩=a/\l.length+1=(r::l).length/\cap=c:=by simpa using e
 refine ⟨_,_,rfl,by simp at hc;omega,λi hlt => ?_⟩;obtain ⟨g',off',e2,hg,h0,h1⟩:=hi (i+1) (by simpa using hlt);obtain ⟨rfl,rfl⟩:g=g'/\off=off':=by simpa using e2
 refine ⟨g,off+2,rfl,hg,?_,?_⟩
 · have:off+2+i*2=off+(i+1)*2:=by omega
   rw [this];simpa using h0
 · have:off+2+i*2+1=off+(i+1)*2+1:=by omega
   rw [this];simpa using h1
theorem ownsRow_below {w w':World} {base e size n:Nat} {v:Value} {xs:List Value} (h:w.ownsRow base e size v n xs) (hb:Below w.heap.size w w'):w'.ownsRow base e size v n xs :=
 World.ownsRow.kept (row:=none) h ⟨hb.os,hb.tape,hb.output,hb.size,λk hk _=>hb.block k hk⟩ (by cases v.ownBlock<;>simp)
theorem below_drewN' {B:Nat} {a w:World} (h:Below B a w):∀k,Below B a (w.drewN k)
 | 0=>h
 | k+1=>(below_drewN' h k).drew
theorem ownsRow_drewN {w:World} {base e size n:Nat} {v:Value} {xs:List Value} (h:w.ownsRow base e size v n xs) (k:Nat):(w.drewN k).ownsRow base e size v n xs :=
 ownsRow_below h (below_drewN' (Below.refl _ _) k)
theorem heap_new' (w:World) (o:Obj):(w.alloc o).heap[w.heap.size]? = some o:=World.alloc_heap_new w o
theorem own_grow {w:World} {base g cap:Nat} {ini:List Rg} {s:Rg} (h:w.ownsRow base 94 2 (.slice (some ⟨g,0,none⟩) (ini++[s]).length cap) (ini++[s]).length (cellsRs (ini++[s]))) (hi:Int) :
 (w.setCell ⟨g,ini.length*2+1,none⟩ (.int .i64 hi)).ownsRow base 94 2 (.slice (some ⟨g,0,none⟩) (ini++[s]).length cap) (ini++[(⟨s.lo,hi⟩:Rg)]).length (cellsRs (ini++[⟨s.lo,hi⟩])):=by
 have hl:(ini++[(⟨s.lo,hi⟩:Rg)]).length=(ini++[s]).length:=by simp
 refine ⟨by rw [cellsRs_length],.inr ?_⟩;rcases h.2 with ⟨e,_⟩ | ⟨g',cap',cur,e,hb,hg,hc,hm,hs,ht⟩
 · cases e
 · obtain ⟨rfl,rfl⟩:g=g'/\cap=cap':=by simpa using e
   refine ⟨g,cap,cur.setIfInBounds (ini.length*2+1) (.int .i64 hi),by rw [hl],hb,heap_setCell_same _ _ _ _ _ _ hg,by rw [hl];exact hc,hm,by simp [hs],?_⟩;rw [hl];have e1:(cur.setIfInBounds (ini.length*2+1) (.int .i64 hi)).toList=cur.toList.set (ini.length*2+1) (.int .i64 hi):=by simp
   rw [e1,List.take_set,ht,cellsRs_snoc,cellsRs_snoc,List.set_append_right _ _ (by rw [cellsRs_length];omega),cellsRs_length];have e2:ini.length*2+1-ini.length*2=1:=by omega
   rw [e2];rfl
theorem Tryz.infoRange:(Tryz.prog.info? 94).map (λi=>(i.zero,i.size,i.bytes))=some (some (.agg #[.int .i64 0,.int .i64 0]),2,16):=by kernel_rfl
theorem Tryz.infoInt:(Tryz.prog.info? 3).map (λi=>(i.zero,i.size,i.bytes))=some (some (.int .i64 0),1,8):=by kernel_rfl
end Go.Proofs.YtfdjchnckjgapaaGreatDoor
