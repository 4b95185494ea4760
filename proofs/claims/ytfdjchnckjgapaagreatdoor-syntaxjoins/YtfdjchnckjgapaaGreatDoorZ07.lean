/-
  Numb Letter Rows7
-/
import Derived.Test.YtfdjchnckjgapaaGreatDoorZ06
import Derived.Test.YtfdjchnckjgapaaGreatDoorZ05
import Derived.Laws.ResultCell
import Derived.Laws.Rows
namespace Go.Proofs.YtfdjchnckjgapaaGreatDoor
set_option maxHeartbeats 4000000
set_option maxRecDepth 100000
open Go.RowKit Go.Shelf S1
set_option linter.unusedVariables false
theorem take2_any (w:World) (R B C n:Nat) (tv:Value) (us:List U) (hrd:Rd w R tv us) (h:AM w B C R n) (hn:n<=6) :
 Calls Tryz.prog 70 #[.pointer (some ⟨R,0,none⟩),.func (.func 220) #[] #[.pointer (some ⟨B,0,none⟩),.pointer (some ⟨C,0,none⟩)]] w λe w' =>
  (∃u t,us=u::t/\1<=n/\fitU figR u=true/\e = .returned (.bool true)/\Rd w' R tv t/\AM w' B C R ((n-1:Nat):Int)/\(w.setCell ⟨B,0,none⟩ (.int .i64 ((n:Int)-1))).grownBy w' (some R)) \/
  (figsD n us=us/\e = .returned (.bool false)/\Rd w' R tv us/\(w'=w\/w'=w.setCell ⟨B,0,none⟩ (.int .i64 ((n:Int)-1)))):=by
 have hB:R<B:=h.2.2.2.1;have eg:=enters_of Tryz.func220 (by kernel_rfl) rfl;have key:∀(x:Int) (b:Bool) (Q:World->Prop),Calls Tryz.prog 108 #[.pointer (some ⟨R,0,none⟩),.func (.func 220) #[] #[.pointer (some ⟨B,0,none⟩),.pointer (some ⟨C,0,none⟩)]] w (λe w'=>e = .returned (.tuple #[.int .i64 x,.bool b])/\Q w') ->
  Calls Tryz.prog 70 #[.pointer (some ⟨R,0,none⟩),.func (.func 220) #[] #[.pointer (some ⟨B,0,none⟩),.pointer (some ⟨C,0,none⟩)]] w (λe w'=>e = .returned (.bool b)/\Q w'):=λx b Q HS=>by
  go_enter Tryz.func70,Tryz.ntmps70
  go_wp2_with fail
  refine HS.mono ?_;rintro e w' ⟨rfl,hq⟩;go_wp2;go_ret;exact ⟨rfl,hq⟩
 match us,hrd with
 | [],hrd =>
  refine (key 0 false (λw'=>w=w') (sign2_n B C _ w R tv [] (.inl rfl) hrd)).mono λe w' ⟨he,hw⟩ => .inr ⟨?_,he,by rw [<- hw];exact hrd,.inl hw.symm⟩;cases n<;>rfl
 | u::t,hrd =>
  cases hb:u.bad with
  | true =>
   refine (key 0 false (λw'=>w=w') (sign2_n B C _ w R tv (u::t) (.inr ⟨u,t,rfl,hb⟩) hrd)).mono λe w' ⟨he,hw⟩ => .inr ⟨?_,he,by rw [<- hw];exact hrd,.inl hw.symm⟩;cases n with
   | zero=>rfl
   | succ m=>show (if fitU figR u=true then figsD m t else u::t)=_;rw [if_neg (by simp [fitU,hb])]
  | false =>
   have hc:=atMost1_any n u.r B C R w h hn;have hrd1:Rd (w.setCell ⟨B,0,none⟩ (.int .i64 ((n:Int)-1))) R tv (u::t):=hrd.set hB 0 _;cases hq:(decide (1<=n)&&figR u.r) with
   | true =>
    rw [hq] at hc;simp at hq;refine (key u.r true (λw'=>Rd w' R tv t/\(w.setCell ⟨B,0,none⟩ (.int .i64 ((n:Int)-1))).grownBy w' (some R)) (sign2_t B C _ eg w _ R tv u t hb hrd hrd1 hc)).mono λe w' ⟨he,hr,hw⟩ => .inl ⟨u,t,rfl,hq.1,by simp [fitU,hb,hq.2],he,hr,?_,hw⟩;have:=(h.set ((n:Int)-1)).grown hw;rw [show ((n-1:Nat):Int)=(n:Int)-1 by omega];exact this
   | false =>
    rw [hq] at hc;refine (key 0 false (λw'=>w.setCell ⟨B,0,none⟩ (.int .i64 ((n:Int)-1))=w') (sign2_f B C _ eg w _ R tv u t hb hrd hrd1 hc)).mono λe w' ⟨he,hw⟩ => .inr ⟨?_,he,by rw [<- hw];exact hrd1,.inr hw.symm⟩;cases n with
    | zero=>rfl
    | succ m =>
     have hq':figR u.r=false:=by simpa using hq
     show (if fitU figR u=true then figsD m t else u::t)=_;rw [if_neg (by simp [fitU,hq'])]
theorem takeAll2_any (w0 w:World) (R B C:Nat) (tv:Value) (us:List U) (hw0:w0.grownBy w (some R)) (hB0:w0.heap.size<=B) (hrd:Rd w R tv us) (h:AM w B C R 6) :
 Calls Tryz.prog 73 #[.pointer (some ⟨R,0,none⟩),.func (.func 220) #[] #[.pointer (some ⟨B,0,none⟩),.pointer (some ⟨C,0,none⟩)]] w λe w'=>e = .returned (.tuple #[])/\Rd w' R tv (figsD 6 us)/\w0.grownBy w' (some R):=by
 go_enter Tryz.func73,Tryz.ntmps73;go_wp2
 go_loopw [] (λwr=>∃(vs:List U) (n:Nat),n<=6/\figsD n vs=figsD 6 us/\Rd wr R tv vs/\AM wr B C R n/\w0.grownBy wr (some R)) (λwr=>leftN wr R)
 case atStart=>exact ⟨us,6,Nat.le_refl _,rfl,hrd,h,hw0⟩
 case round =>
  obtain ⟨vs,n,hn,hd,hr,ham,hw⟩:=hrel;have HD:Hid (figsD n vs=figsD 6 us):=hd;have hl0:=hr.left;have hm:=take2_any wr R B C n tv vs hr ham hn;clear hd
  go_wp2_with fail
  refine hm.mono ?_;intro e w' hcase;rcases hcase with ⟨u,t,rfl,h1,hf,rfl,hr2,ham2,hw2⟩ | ⟨hfd,rfl,hr2,hww⟩
  · have HE:Hid (figsD (n-1) t=figsD 6 us):=by
     show _=_;rw [<- HD.out];obtain ⟨m,rfl⟩ :∃m,n=m+1:=⟨n-1,by omega⟩;show figsD m t=if fitU figR u=true then figsD m t else u::t
     rw [if_pos hf]
    have hg:w0.grownBy w' (some R):=(hw.andThen (grownR_set wr B 0 _) (λj e => .inl (by injection e with e;omega))).trans hw2;clear hf;go_wp2
    go_roundw
    case rel=>exact ⟨t,n-1,by omega,HE.out,hr2,ham2,hg⟩
    case measure=>rw [hr2.left,hl0];simp
  · have HE:Hid (vs=figsD 6 us):=by show _=_;rw [<- HD.out];exact hfd.symm
    have hg:w0.grownBy w' (some R):=by
     rcases hww with e | e
     · rw [e];exact hw
     · rw [e];exact hw.andThen (grownR_set wr B 0 _) (λj e => .inl (by injection e with e;omega))
    clear hfd hww;go_wp2
    go_end0
    exact ⟨rfl,by rw [<- HE.out];exact hr2,hg⟩
theorem figs_split:∀(n:Nat) (us:List U),∃a,us=a++figsD n us/\a.map U.r=figsL n us/\(∀u∈a,fitU figR u=true)/\a.length<=n
 | 0,us=>⟨[],rfl,rfl,(λu h=>(by cases h)),Nat.le_refl _⟩
 | n+1,[]=>⟨[],rfl,rfl,(λu h=>(by cases h)),Nat.zero_le _⟩
 | n+1,u::t=>by
  by_cases q:fitU figR u=true
  · obtain ⟨a,h1,h2,h3,h4⟩:=figs_split n t;refine ⟨u::a,?_,?_,?_,by simp only [List.length_cons];omega⟩
    · show u::t=u::a++if fitU figR u=true then figsD n t else u::t
      rw [if_pos q,List.cons_append,<- h1]
    · show u.r::a.map U.r=if fitU figR u=true then u.r::figsL n t else []
      rw [if_pos q,h2]
    · intro v hv;rcases List.mem_cons.1 hv with rfl | hv
      · exact q
      · exact h3 v hv
  · refine ⟨[],?_,?_,λu h=>(by cases h),Nat.zero_le _⟩
    · show u::t=[]++if fitU figR u=true then figsD n t else u::t
      rw [if_neg q];rfl
    · show []=if fitU figR u=true then u.r::figsL n t else []
      rw [if_neg q]
theorem figsL_fig (n:Nat) (us:List U):(∀c∈figsL n us,figR c=true)/\(figsL n us).length<=n:=by
 obtain ⟨a,h1,h2,h3,h4⟩:=figs_split n us;rw [<- h2];refine ⟨λc hc => ?_,by simpa using h4⟩;obtain ⟨u,hu,rfl⟩:=List.mem_map.1 hc;have:=h3 u hu;simp [fitU] at this;exact this.2
def Runs (zs:List Int) (us:List U):Prop:=∃p,Run zs p us zs.length
theorem Runs.tail {zs:List Int} {u:U} {t:List U} (h:Runs zs (u::t)):Runs zs t:=by
 obtain ⟨p,h⟩:=h;exact ⟨_,h.2.2⟩
theorem Runs.sgn {zs:List Int} {us r:List U} {p:Int->Bool} {x:Int} (h:Runs zs us) (hs:sgn p us=(some x,r)):Runs zs r:=by
 obtain ⟨u,rfl,_⟩:=sgn_some hs;exact h.tail
theorem Runs.drop {zs:List Int}:∀ {a b:List U},Runs zs (a++b)->Runs zs b
 | [],b,h=>h
 | u::a,b,h=>Runs.drop (a:=a) (h.tail)
theorem Runs.at_le {zs:List Int} {us:List U} (h:Runs zs us):atL zs.length us<=zs.length:=by
 obtain ⟨p,h⟩:=h;rw [run_at h]
 match us,h with
 | [],h=>exact Nat.le_of_eq (show p=zs.length from h)
 | u::t,h=>exact Nat.le_of_lt h.1
theorem runs_cut {zs:List Int} {a b:List U} (h:Runs zs (a++b)) (ha:∀u∈a,u.bad=false/\u.r<128):cutZ zs (atL zs.length (a++b)) (atL zs.length b)=a.map U.r/\atL zs.length (a++b)<=atL zs.length b:=by
 obtain ⟨p,h⟩:=h;rw [run_at h];rcases run_take h ha with ⟨h1,h2,h3⟩ | ⟨rfl,h1⟩
 · rw [run_at h1];unfold cutZ;rw [show p+a.length-p=a.length by omega];exact ⟨h2,by omega⟩
 · rw [run_at h1];simp [cutZ]
theorem number_any (zs:List Int) (us:List U) (R:Nat) (ta:Option Addr) (cap:Nat) (w:World) (hrd:Rd w R (.slice ta zs.length cap) us) (htx:TxtAt R w (.slice ta zs.length cap) zs) (hz:zs.length<=65536) (hpos:0<zs.length) (hrun:Runs zs us) :
 Calls Tryz.prog 176 #[.pointer (some ⟨R,0,none⟩)] w λe w'=>∃x,e = .returned (.tuple #[.int .i64 x,.bool (numL us).1.isSome])/\(∀v,(numL us).1=some v->x=v)/\Rd w' R (.slice ta zs.length cap) (numL us).2/\w.grownBy w' (some R):=by
 obtain ⟨g,off,rfl⟩ :∃g off,ta=some ⟨g,off,none⟩:=by
  obtain ⟨a,c,e,_,hi⟩:=htx;obtain ⟨g,off,ha,_⟩:=hi 0 hpos;simp at e;exact ⟨g,off,by rw [e.1,ha]⟩
 have hat:=at_any us R _ zs.length cap w hrd;have hl:=hrd.text.2;have HTX:Hid (TxtAt R w (.slice (some ⟨g,off,none⟩) zs.length cap) zs):=htx;obtain ⟨a,ea,hm,hf,ha6⟩:=figs_split 6 us;have hfl:=figsL_fig 6 us;have hrun2:Runs zs (figsD 6 us):=Runs.drop (a:=a) (by rw [<- ea];exact hrun);have hcut:=runs_cut (a:=a) (b:=figsD 6 us) (by rw [<- ea];exact hrun) (λu hu=>by have:=hf u hu;simp [fitU] at this;exact ⟨this.1,by rcases figR_cases this.2 with q | q<;>omega⟩);rw [<- ea,hm] at hcut;have HCUT:Hid (cutZ zs (atL zs.length us) (atL zs.length (figsD 6 us))=figsL 6 us):=hcut.1;have HLE:Hid (atL zs.length us<=atL zs.length (figsD 6 us)):=hcut.2;have HLE2:Hid (atL zs.length (figsD 6 us)<=zs.length):=hrun2.at_le;obtain ⟨p,hp⟩ :∃p,p=atL zs.length us:=⟨_,rfl⟩;rw [<- hp] at HCUT HLE hat;clear hcut hm hf ha6 ea hp hrun2 htx;have hw1:w.grownBy ((w.alloc (.cells #[.int .i64 6] 3)).alloc (.cells #[.func (.func 202) #[] #[]] 119)) (some R):=(World.grownBy_alloc w _ _).trans (World.grownBy_alloc _ _ _);have hrd1:Rd ((w.alloc (.cells #[.int .i64 6] 3)).alloc (.cells #[.func (.func 202) #[] #[]] 119)) R (.slice (some ⟨g,off,none⟩) zs.length cap) us:=(hrd.alloc _).alloc _;have ham:AM ((w.alloc (.cells #[.int .i64 6] 3)).alloc (.cells #[.func (.func 202) #[] #[]] 119)) w.heap.size (w.heap.size+1) R 6:=by
  have b1:=Boxed.new w 3 (.int .i64 6);have b2:=Boxed.new (w.alloc (.cells #[.int .i64 6] 3)) 119 (.func (.func 202) #[] #[]);rw [World.size_alloc] at b2;have b1':=b1.alloc (.cells #[.func (.func 202) #[] #[]] 119);exact ⟨b1'.cell,b1'.frozen,b2.cell,hl,by omega,by omega,b1'.lt,b2.lt⟩
 have hta:=takeAll2_any w _ R w.heap.size (w.heap.size+1) _ us hw1 (Nat.le_refl _) hrd1 ham;obtain ⟨W1,hW1⟩ :∃W1,W1=(w.alloc (.cells #[.int .i64 6] 3)).alloc (.cells #[.func (.func 202) #[] #[]] 119):=⟨_,rfl⟩;have hmost:Calls Tryz.prog 201 #[.int .i64 6,.func (.func 202) #[] #[]] w λe w'=>e = .returned (.func (.func 220) #[] #[.pointer (some ⟨w.heap.size,0,none⟩),.pointer (some ⟨w.heap.size+1,0,none⟩)])/\W1=w':=by
  rw [hW1];exact atMost_any 6 w
 rw [<- hW1] at hta;clear hW1 hw1 hrd1 ham hrd;go_enter Tryz.func176,Tryz.ntmps176
 go_wp2_with fail
 refine hat.mono ?_;rintro e w' ⟨rfl,rfl⟩
 go_wp2_with fail
 refine hmost.mono ?_;rintro e w' ⟨rfl,rfl⟩
 go_wp2_with fail
 refine hta.mono ?_;rintro e w2 ⟨rfl,hr2,hg2⟩;have hsn:=since_any zs (figsD 6 us) R p g off cap w2 hr2 (HTX.out.grown hg2) hz HLE.out HLE2.out;rw [HCUT.out] at hsn;have HR2:Hid (Rd w2 R (.slice (some ⟨g,off,none⟩) zs.length cap) (figsD 6 us)):=hr2;clear hat hmost hta hr2;by_cases hem:figsL 6 us=[]
 · have en:numL us=(none,us):=by unfold numL;rw [hem];rfl
   have ed:figsD 6 us=us:=by
    obtain ⟨a,ea,hm,_,_⟩:=figs_split 6 us;rw [hem] at hm;obtain rfl:a=[]:=by simpa using hm
    exact ea.symm
   rw [hem] at hsn;have HEN:Hid (numL us=(none,us)):=en;have HED:Hid (figsD 6 us=us):=ed;clear en ed hem
   go_wp2_with fail
   refine hsn.mono ?_;rintro e w3 ⟨rfl,hg3⟩;have hr3:Rd w3 R (.slice (some ⟨g,off,none⟩) zs.length cap) us:=by have:=HR2.out.kept hg3;rwa [HED.out] at this
   have hg03:w.grownBy w3 (some R):=hg2.trans (hg3.but _);have hp0:=parse_none w3 hr3.syn.1;clear hsn hg3
   go_wp2_with fail
   refine hp0.mono ?_;rintro e w4 ⟨⟨pa,rfl⟩,hB4⟩;go_wp2
   go_ret2
   rw [HEN.out];exact ⟨_,rfl,(λv h=>(by cases h)),hr3.kept (grownR_below hB4 _),hg03.trans (grownR_below hB4 _)⟩
 · have hlen:1<=(figsL 6 us).length:=by
    rcases Nat.eq_zero_or_pos (figsL 6 us).length with q | q
    · exact absurd (List.length_eq_zero_iff.1 q) hem
    · exact q
   have hp1:∀w3,_:=λw3=>parse_any (figsL 6 us) hfl.1 hlen hfl.2 w3;obtain ⟨v,hv⟩ :∃v,v=hexV (figsL 6 us):=⟨_,rfl⟩;rw [<- hv] at hp1;have he:(figsL 6 us).isEmpty=false:=by simpa using hem
   obtain ⟨s,hs⟩ :∃s,s=strOfNums (figsL 6 us):=⟨_,rfl⟩;rw [<- hs] at hp1 hsn;have hnl:(numL us).1.isSome=(sgn (isC 125) (figsD 6 us)).1.isSome/\(∀y,(numL us).1=some y->v=y)/\(numL us).2=(sgn (isC 125) (figsD 6 us)).2:=by
    unfold numL;rw [he];simp only [Bool.false_eq_true,if_false];cases hq:sgn (isC 125) (figsD 6 us) with
    | mk o r=>cases o with
     | none=>exact ⟨rfl,(λy h=>(by cases h)),rfl⟩
     | some z=>exact ⟨rfl,(λy h=>(by injection h with h;rw [hv];exact h)),rfl⟩
   have HNL:Hid ((numL us).1.isSome=(sgn (isC 125) (figsD 6 us)).1.isSome/\(∀y,(numL us).1=some y->v=y)/\(numL us).2=(sgn (isC 125) (figsD 6 us)).2):=hnl;clear hem hlen hv he hs hfl hnl
   go_wp2_with fail
   refine hsn.mono ?_;rintro e w3 ⟨rfl,hg3⟩;have hr3:Rd w3 R (.slice (some ⟨g,off,none⟩) zs.length cap) (figsD 6 us):=HR2.out.kept hg3;have hg03:w.grownBy w3 (some R):=hg2.trans (hg3.but _);clear hsn hg3
   go_wp2_with fail
   refine (hp1 w3).mono ?_;rintro e w4 ⟨rfl,hB4⟩;have hr4:Rd w4 R (.slice (some ⟨g,off,none⟩) zs.length cap) (figsD 6 us):=hr3.kept (grownR_below hB4 _);have hg04:w.grownBy w4 (some R):=hg03.trans (grownR_below hB4 _);have hr5:Rd (w4.alloc (.cells #[.int .i64 125] 3)) R (.slice (some ⟨g,off,none⟩) zs.length cap) (figsD 6 us):=hr4.alloc _;have hg05:w.grownBy (w4.alloc (.cells #[.int .i64 125] 3)) (some R):=hg04.trans (World.grownBy_alloc _ _ _);have htk:=take1_any w4.heap.size 125 _ R _ _ hr5 (World.cell?_alloc_new _ _ _ _);obtain ⟨b,hb⟩ :∃b,b=(sgn (isC 125) (figsD 6 us)).1.isSome:=⟨_,rfl⟩;rw [<- hb] at htk HNL;clear hb hp1 hr4 hr5 hr3 HR2 hB4 HTX
   go_wp2_with (first | (go_at_call 72;refine (is_any _ _).mono ?_;rintro e w' ⟨rfl,rfl⟩) | (go_at_call 70;refine htk.mono ?_;rintro e w6 ⟨rfl,hr6,hg6⟩))
   go_ret2
   rw [HNL.out.1,HNL.out.2.2];exact ⟨_,rfl,HNL.out.2.1,hr6,hg05.trans hg6⟩
set_option maxHeartbeats 4000000
set_option maxRecDepth 100000
theorem letL_a {us a:List U} (h:sgn (isC 92) us=(none,a)):letL us=sgn plainR us:=by unfold letL;rw [h]
theorem letL_b {us a b:List U} {x:Int} (h:sgn (isC 92) us=(some x,a)) (h2:sgn (isC 120) a=(none,b)):letL us=sgn guardR a:=by unfold letL;rw [h];simp only;rw [h2]
theorem letL_c {us a b c:List U} {x y:Int} (h:sgn (isC 92) us=(some x,a)) (h2:sgn (isC 120) a=(some y,b)) (h3:sgn (isC 123) b=(none,c)):letL us=(none,b):=by unfold letL;rw [h];simp only;rw [h2];simp only;rw [h3]
theorem letL_d {us a b c:List U} {x y z:Int} (h:sgn (isC 92) us=(some x,a)) (h2:sgn (isC 120) a=(some y,b)) (h3:sgn (isC 123) b=(some z,c)):letL us=numL c:=by unfold letL;rw [h];simp only;rw [h2];simp only;rw [h3]
theorem letter_any (zs:List Int) (us:List U) (R:Nat) (ta:Option Addr) (cap:Nat) (w:World) (hrd:Rd w R (.slice ta zs.length cap) us) (htx:TxtAt R w (.slice ta zs.length cap) zs) (hz:zs.length<=65536) (hpos:0<zs.length) (hrun:Runs zs us) :
 Calls Tryz.prog 141 #[.pointer (some ⟨R,0,none⟩)] w λe w'=>∃x,e = .returned (.tuple #[.int .i64 x,.bool (letL us).1.isSome])/\(∀v,(letL us).1=some v->x=v)/\Rd w' R (.slice ta zs.length cap) (letL us).2/\w.grownBy w' (some R):=by
 have hg0:w.grownBy w (some R):=World.grownBy.refl _ _;cases h1:sgn (isC 92) us with
 | mk o1 a=>cases o1 with
  | none =>
   have ea:=(sgn_none h1).1;have HEQ:Hid (letL us=sgn plainR us):=letL_a h1;subst ea;have H1:Hid _:=h1;clear h1;go_enter Tryz.func141,Tryz.ntmps141;have hra1:=hrd.alloc (.cells #[.int .i64 92] 3);have hga1:w.grownBy (w.alloc (.cells #[.int .i64 92] 3)) (some R):=hg0.trans (World.grownBy_alloc _ _ _);have htk1:=take1_any w.heap.size 92 _ R _ _ hra1 (World.cell?_alloc_new _ _ _ _);rw [H1.out] at htk1
   go_wp2_with fail
   refine (is_any _ _).mono ?_;rintro e w' ⟨rfl,rfl⟩
   go_wp2_with fail
   refine htk1.mono ?_;rintro e w1 ⟨rfl,hr1,hgb1⟩;have hg1:w.grownBy w1 (some R):=hga1.trans hgb1;clear htk1 hra1 hga1 hgb1;have hsg:=sign0_any 174 plainR isPlain_any (enters_of Tryz.func174 (by kernel_rfl) rfl) _ R _ _ hr1
   go_wp2_with fail
   refine hsg.mono ?_;rintro e w9 ⟨rfl,hr9,hg9⟩;go_wp2
   go_ret2
   rw [HEQ.out];exact ⟨_,rfl,(λv h=>(by rw [h];rfl)),hr9,hg1.trans hg9⟩
  | some x =>
   have hrun1:=hrun.sgn h1;cases h2:sgn (isC 120) a with
   | mk o2 b=>cases o2 with
    | none =>
     have eb:=(sgn_none h2).1;have HEQ:Hid (letL us=sgn guardR a):=letL_b h1 h2;subst eb;have H1:Hid _:=h1;have H2:Hid _:=h2;clear h1 h2;go_enter Tryz.func141,Tryz.ntmps141;have hra1:=hrd.alloc (.cells #[.int .i64 92] 3);have hga1:w.grownBy (w.alloc (.cells #[.int .i64 92] 3)) (some R):=hg0.trans (World.grownBy_alloc _ _ _);have htk1:=take1_any w.heap.size 92 _ R _ _ hra1 (World.cell?_alloc_new _ _ _ _);rw [H1.out] at htk1
     go_wp2_with fail
     refine (is_any _ _).mono ?_;rintro e w' ⟨rfl,rfl⟩
     go_wp2_with fail
     refine htk1.mono ?_;rintro e w1 ⟨rfl,hr1,hgb1⟩;have hg1:w.grownBy w1 (some R):=hga1.trans hgb1;clear htk1 hra1 hga1 hgb1;have hra2:=hr1.alloc (.cells #[.int .i64 120] 3);have hga2:w.grownBy (w1.alloc (.cells #[.int .i64 120] 3)) (some R):=hg1.trans (World.grownBy_alloc _ _ _);have htk2:=take1_any w1.heap.size 120 _ R _ _ hra2 (World.cell?_alloc_new _ _ _ _);rw [H2.out] at htk2
     go_wp2_with fail
     refine (is_any _ _).mono ?_;rintro e w' ⟨rfl,rfl⟩
     go_wp2_with fail
     refine htk2.mono ?_;rintro e w2 ⟨rfl,hr2,hgb2⟩;have hg2:w.grownBy w2 (some R):=hga2.trans hgb2;clear htk2 hra2 hga2 hgb2;have hsg:=sign0_any 175 guardR isGuarded_any (enters_of Tryz.func175 (by kernel_rfl) rfl) _ R _ _ hr2
     go_wp2_with fail
     refine hsg.mono ?_;rintro e w9 ⟨rfl,hr9,hg9⟩;go_wp2
     go_ret2
     rw [HEQ.out];exact ⟨_,rfl,(λv h=>(by rw [h];rfl)),hr9,hg2.trans hg9⟩
    | some y =>
     have hrun2:=hrun1.sgn h2;cases h3:sgn (isC 123) b with
     | mk o3 c=>cases o3 with
      | none =>
       have ec:=(sgn_none h3).1;have HEQ:Hid (letL us=(none,b)):=letL_c h1 h2 h3;subst ec;have H1:Hid _:=h1;have H2:Hid _:=h2;have H3:Hid _:=h3;clear h1 h2 h3;go_enter Tryz.func141,Tryz.ntmps141;have hra1:=hrd.alloc (.cells #[.int .i64 92] 3);have hga1:w.grownBy (w.alloc (.cells #[.int .i64 92] 3)) (some R):=hg0.trans (World.grownBy_alloc _ _ _);have htk1:=take1_any w.heap.size 92 _ R _ _ hra1 (World.cell?_alloc_new _ _ _ _);rw [H1.out] at htk1
       go_wp2_with fail
       refine (is_any _ _).mono ?_;rintro e w' ⟨rfl,rfl⟩
       go_wp2_with fail
       refine htk1.mono ?_;rintro e w1 ⟨rfl,hr1,hgb1⟩;have hg1:w.grownBy w1 (some R):=hga1.trans hgb1;clear htk1 hra1 hga1 hgb1;have hra2:=hr1.alloc (.cells #[.int .i64 120] 3);have hga2:w.grownBy (w1.alloc (.cells #[.int .i64 120] 3)) (some R):=hg1.trans (World.grownBy_alloc _ _ _);have htk2:=take1_any w1.heap.size 120 _ R _ _ hra2 (World.cell?_alloc_new _ _ _ _);rw [H2.out] at htk2
       go_wp2_with fail
       refine (is_any _ _).mono ?_;rintro e w' ⟨rfl,rfl⟩
       go_wp2_with fail
       refine htk2.mono ?_;rintro e w2 ⟨rfl,hr2,hgb2⟩;have hg2:w.grownBy w2 (some R):=hga2.trans hgb2;clear htk2 hra2 hga2 hgb2;have hra3:=hr2.alloc (.cells #[.int .i64 123] 3);have hga3:w.grownBy (w2.alloc (.cells #[.int .i64 123] 3)) (some R):=hg2.trans (World.grownBy_alloc _ _ _);have htk3:=take1_any w2.heap.size 123 _ R _ _ hra3 (World.cell?_alloc_new _ _ _ _);rw [H3.out] at htk3
       go_wp2_with fail
       refine (is_any _ _).mono ?_;rintro e w' ⟨rfl,rfl⟩
       go_wp2_with fail
       refine htk3.mono ?_;rintro e w3 ⟨rfl,hr3,hgb3⟩;have hg3:w.grownBy w3 (some R):=hga3.trans hgb3;clear htk3 hra3 hga3 hgb3;go_wp2
       go_ret2
       rw [HEQ.out];exact ⟨_,rfl,(λv h=>(by cases h)),hr3,hg3⟩
      | some z =>
       have hrun3:=hrun2.sgn h3;have HEQ:Hid (letL us=numL c):=letL_d h1 h2 h3;have H1:Hid _:=h1;have H2:Hid _:=h2;have H3:Hid _:=h3;clear h1 h2 h3;go_enter Tryz.func141,Tryz.ntmps141;have hra1:=hrd.alloc (.cells #[.int .i64 92] 3);have hga1:w.grownBy (w.alloc (.cells #[.int .i64 92] 3)) (some R):=hg0.trans (World.grownBy_alloc _ _ _);have htk1:=take1_any w.heap.size 92 _ R _ _ hra1 (World.cell?_alloc_new _ _ _ _);rw [H1.out] at htk1
       go_wp2_with fail
       refine (is_any _ _).mono ?_;rintro e w' ⟨rfl,rfl⟩
       go_wp2_with fail
       refine htk1.mono ?_;rintro e w1 ⟨rfl,hr1,hgb1⟩;have hg1:w.grownBy w1 (some R):=hga1.trans hgb1;clear htk1 hra1 hga1 hgb1;have hra2:=hr1.alloc (.cells #[.int .i64 120] 3);have hga2:w.grownBy (w1.alloc (.cells #[.int .i64 120] 3)) (some R):=hg1.trans (World.grownBy_alloc _ _ _);have htk2:=take1_any w1.heap.size 120 _ R _ _ hra2 (World.cell?_alloc_new _ _ _ _);rw [H2.out] at htk2
       go_wp2_with fail
       refine (is_any _ _).mono ?_;rintro e w' ⟨rfl,rfl⟩
       go_wp2_with fail
       refine htk2.mono ?_;rintro e w2 ⟨rfl,hr2,hgb2⟩;have hg2:w.grownBy w2 (some R):=hga2.trans hgb2;clear htk2 hra2 hga2 hgb2;have hra3:=hr2.alloc (.cells #[.int .i64 123] 3);have hga3:w.grownBy (w2.alloc (.cells #[.int .i64 123] 3)) (some R):=hg2.trans (World.grownBy_alloc _ _ _);have htk3:=take1_any w2.heap.size 123 _ R _ _ hra3 (World.cell?_alloc_new _ _ _ _);rw [H3.out] at htk3
       go_wp2_with fail
       refine (is_any _ _).mono ?_;rintro e w' ⟨rfl,rfl⟩
       go_wp2_with fail
       refine htk3.mono ?_;rintro e w3 ⟨rfl,hr3,hgb3⟩;have hg3:w.grownBy w3 (some R):=hga3.trans hgb3;clear htk3 hra3 hga3 hgb3;have hnm:=number_any zs c R ta cap w3 hr3 (htx.grown hg3) hz hpos hrun3
       go_wp2_with fail
       refine hnm.mono ?_;rintro e w9 ⟨nv,rfl,hnv,hr9,hg9⟩;go_wp2
       go_ret2
       rw [HEQ.out];exact ⟨_,rfl,hnv,hr9,hg3.trans hg9⟩
end Go.Proofs.YtfdjchnckjgapaaGreatDoor
namespace Go.Proofs.YtfdjchnckjgapaaGreatDoor
open Go.RowKit
set_option linter.unusedVariables false
theorem heap_set {w:World} {b i:Nat} {cs:Array Value} {t:TypeId} {fr:Nat×Nat} (h:w.heap[b]? = some (.cells cs t fr)) (v:Value):(w.setCell ⟨b,i,none⟩ v).heap[b]? = some (.cells (cs.setIfInBounds i v) t fr):=by
 simp [World.setCell];rw [Array.getElem?_modify,if_pos rfl,h];rfl
theorem results_row_tmp {P:Program} {fn:Func} {p u:Tmp} {ty:TypeId} (h:fn.results=#[.cell p ty,.tmp u]) (tmps:Array Value) (w:World) (g:Nat) (t:TypeId) (cs:Array Value) (fr:Nat×Nat) (d:TypeDesc)
 (hp:tmps.getD p undef = .pointer (some ⟨g,0,none⟩)) (hg:w.heap[g]? = some (.cells cs t fr))
 (hu:P.underlying ty=some d) (hd:(match d with | .struct _ | .array _ _=>true | _=>false)=true) (hi:(P.info? ty).map (·.size)=some cs.size) :
 (results fn tmps).run P w = .ok (.tuple #[.agg cs,tmps.getD u undef]) w:=by
 have hp':tmps[p]?.getD undef = .pointer (some ⟨g,0,none⟩):=by simpa using hp
 simp [results,h,hp',asAddr,run_loadVar_row w g t ty cs fr d hg hu hd hi]
theorem results_row_tmp2 {P:Program} {fn:Func} {p u v:Tmp} {ty:TypeId} (h:fn.results=#[.cell p ty,.tmp u,.tmp v]) (tmps:Array Value) (w:World) (g:Nat) (t:TypeId) (cs:Array Value) (fr:Nat×Nat) (d:TypeDesc)
 (hp:tmps.getD p undef = .pointer (some ⟨g,0,none⟩)) (hg:w.heap[g]? = some (.cells cs t fr))
 (hu:P.underlying ty=some d) (hd:(match d with | .struct _ | .array _ _=>true | _=>false)=true) (hi:(P.info? ty).map (·.size)=some cs.size) :
 (results fn tmps).run P w = .ok (.tuple #[.agg cs,tmps.getD u undef,tmps.getD v undef]) w:=by
 have hp':tmps[p]?.getD undef = .pointer (some ⟨g,0,none⟩):=by simpa using hp
 simp [results,h,hp',asAddr,run_loadVar_row w g t ty cs fr d hg hu hd hi]
end Go.Proofs.YtfdjchnckjgapaaGreatDoor
