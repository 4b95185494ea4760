/-
  Token
-/
import Derived.Test.YtfdjchnckjgapaaGreatDoorZ08
namespace Go.Proofs.YtfdjchnckjgapaaGreatDoor
set_option maxHeartbeats 8000000
set_option maxRecDepth 100000
open Go.RowKit Go.Shelf S1
set_option linter.unusedVariables false
def OrT (n R:Nat) (tv:Value) (o:OR) (w:World) (e:Ending) (w':World):Prop :=
 (∃a x k p,o=OR.bad a x/\e = .returned (.tuple #[.agg #[.int .i64 k,.int .i64 p,.string ⟨#[]⟩,.slice none 0 0],.int .i64 (a:Int),.int .i64 x])/\x≠0/\w.grownBy w' (some R)) \/
 (∃t r s v,o=OR.good t r/\e = .returned (.tuple #[.agg #[.int .i64 t.k,.int .i64 (t.p:Int),.string (strOfNums t.t),v],.int .i64 0,.int .i64 0])/\Upto (hasR t.s) s 1114112/\s.length<=n/\w'.ownsRow w.heap.size 94 2 v s.length (cellsRs s)/\Rd w' R tv r/\w.grownBy w' (some R))
theorem upto_nil:Upto (hasR []) [] 1114112:=⟨trivial,λx=>by simp [hasR]⟩
theorem take_drop_while (p:U->Bool):∀(l:List U),l=l.takeWhile p++l.dropWhile p
 | []=>rfl
 | u::t=>by
  by_cases q:p u=true
  · simp only [List.takeWhile_cons,List.dropWhile_cons,q,if_true,List.cons_append];exact congrArg _ (take_drop_while p t)
  · simp [q]
theorem takeWhile_all (p:U->Bool):∀(l:List U),∀u∈l.takeWhile p,p u=true
 | [],u,h=>by cases h
 | v::t,u,h=>by
  by_cases q:p v=true
  · simp only [List.takeWhile_cons,q,if_true] at h;rcases List.mem_cons.1 h with rfl | h
    · exact q
    · exact takeWhile_all p t u h
  · simp [q] at h
theorem fit_name {u:U} (h:fitU nameB u=true):u.bad=false/\u.r<128:=by
 simp [fitU,nameB] at h;exact ⟨h.1,by omega⟩
theorem fit_inName {u:U} (h:fitU nameR u=true):u.bad=false/\u.r<128:=by
 simp [fitU,nameR,nameB,decB] at h;exact ⟨h.1,by omega⟩
theorem fit_tok {u:U} (h:fitU tokR u=true):u.bad=false/\u.r<128:=by
 simp [fitU,tokR] at h;exact ⟨h.1,by omega⟩
theorem tokO_name {n:Nat} {u:U} {t:List U} (h:fitU nameB u=true):tokO n (u::t)=OR.good ⟨1,u.p,u.r::(t.takeWhile (fitU nameR)).map U.r,[]⟩ (t.dropWhile (fitU nameR)):=by rw [tokO_cons,if_pos h]
theorem tokO_tok {n:Nat} {u:U} {t:List U} (h:fitU nameB u=false) (h2:fitU tokR u=true):tokO n (u::t)=OR.good ⟨2,u.p,[u.r],[]⟩ t:=by rw [tokO_cons,if_neg (by simp [h]),if_pos h2]
theorem tokO_set {n:Nat} {u:U} {t:List U} (h:fitU nameB u=false) (h2:fitU tokR u=false) (h3:fitU (isC 91) u=true):tokO n (u::t)=ofSet u.p (setF n (t.length+1) t []):=by rw [tokO_cons,if_neg (by simp [h]),if_neg (by simp [h2]),if_pos h3]
theorem tokO_bad {n:Nat} {u:U} {t:List U} (h:fitU nameB u=false) (h2:fitU tokR u=false) (h3:fitU (isC 91) u=false):tokO n (u::t)=OR.bad u.p 6:=by rw [tokO_cons,if_neg (by simp [h]),if_neg (by simp [h2]),if_neg (by simp [h3])]
theorem sgn_t {p:Int->Bool} {u:U} {t:List U} (h:fitU p u=true):sgn p (u::t)=(some u.r,t):=by rw [sgn_cons,if_pos h]
theorem sgn_f {p:Int->Bool} {u:U} {t:List U} (h:fitU p u=false):sgn p (u::t)=(none,u::t):=by rw [sgn_cons,if_neg (by simp [h])]
theorem token_any (zs:List Int) (us:List U) (R:Nat) (ta:Option Addr) (cap:Nat) (w:World) (hrd:Rd w R (.slice ta zs.length cap) us) (htx:TxtAt R w (.slice ta zs.length cap) zs) (hz:zs.length<=65536) (hul:us.length<=65536) (hrun:Runs zs us) :
 Calls Tryz.prog 36 #[.pointer (some ⟨R,0,none⟩)] w λe w'=>OrT 65536 R (.slice ta zs.length cap) (tokO zs.length us) w e w':=by
 have hl:R<w.heap.size:=hrd.text.2;have hgE:w.grownBy (w.alloc (.cells #[.int .i64 0,.int .i64 0,.string ⟨#[]⟩,.slice none 0 0] 54)) (some R):=World.grownBy_alloc _ _ _;have hrE:Rd (w.alloc (.cells #[.int .i64 0,.int .i64 0,.string ⟨#[]⟩,.slice none 0 0] 54)) R (.slice ta zs.length cap) us:=hrd.alloc _;have hat:=at_any us R _ _ _ (w.alloc (.cells #[.int .i64 0,.int .i64 0,.string ⟨#[]⟩,.slice none 0 0] 54)) hrE;obtain ⟨p,hp⟩ :∃p,p=atL zs.length us:=⟨_,rfl⟩;rw [<- hp] at hat;have hnew:∀j,some w.heap.size=some j->w.heap.size<=j\/some R=some j:=λj e => .inl (by injection e with e;omega);have HNEW:Hid (∀j,some w.heap.size=some j->w.heap.size<=j\/some R=some j):=hnew;clear hnew;have hEE:=heap_new' w (.cells #[.int .i64 0,.int .i64 0,.string ⟨#[]⟩,.slice none 0 0] 54);obtain ⟨wE,hwE⟩ :∃wE,wE=(w.alloc (.cells #[.int .i64 0,.int .i64 0,.string ⟨#[]⟩,.slice none 0 0] 54)):=⟨_,rfl⟩;have hatE:Calls Tryz.prog 75 #[.pointer (some ⟨R,0,none⟩)] (w.alloc (.cells #[.int .i64 0,.int .i64 0,.string ⟨#[]⟩,.slice none 0 0] 54)) λe w'=>e = .returned (.int .i64 (p:Int))/\wE=w':=by rw [hwE];exact hat
 rw [<- hwE] at hEE hrE hgE;have HTX:Hid (TxtAt R wE (.slice ta zs.length cap) zs):=htx.grown hgE;clear hwE hat htx hrd;have hE1:(wE.setCell ⟨w.heap.size,1,none⟩ (.int .i64 (p:Int))).heap[w.heap.size]? = some (.cells #[.int .i64 0,.int .i64 (p:Int),.string ⟨#[]⟩,.slice none 0 0] 54 (0,0)):=heap_set hEE _;have hr1:Rd (wE.setCell ⟨w.heap.size,1,none⟩ (.int .i64 (p:Int))) R (.slice ta zs.length cap) us:=hrE.set hl 1 _;have hg1:w.grownBy (wE.setCell ⟨w.heap.size,1,none⟩ (.int .i64 (p:Int))) (some R):=hgE.andThen (grownR_set _ _ 1 _) HNEW.out;have HP0:Hid (p=atL zs.length us):=hp;clear hp
 match us,hrun,hul,hrE,hr1,HP0 with
 | [],hrun,hul,hrE,hr1,HP0 =>
  have hp:=HP0.out;have HO:Hid (tokO zs.length []=OR.good ⟨4,p,[],[]⟩ []):=by show _=_;rw [hp];rfl
  obtain ⟨ua,uc,u1,u0,_⟩:=hrE.nil;have hne:w.heap.size≠R:=by omega
  clear hp hE1;have d0:wE.cell? ⟨w.heap.size,0,none⟩=some (.int .i64 0):=cell_of_row _ _ 0 _ _ _ hEE;have f0:wE.frozen? ⟨w.heap.size,0,none⟩=false:=frozen_of_row _ _ 0 _ _ hEE;have d1:wE.cell? ⟨w.heap.size,1,none⟩=some (.int .i64 0):=cell_of_row _ _ 1 _ _ _ hEE;have f1:wE.frozen? ⟨w.heap.size,1,none⟩=false:=frozen_of_row _ _ 1 _ _ hEE;have d2:wE.cell? ⟨w.heap.size,2,none⟩=some (.string ⟨#[]⟩):=cell_of_row _ _ 2 _ _ _ hEE;have f2:wE.frozen? ⟨w.heap.size,2,none⟩=false:=frozen_of_row _ _ 2 _ _ hEE;have d3:wE.cell? ⟨w.heap.size,3,none⟩=some (.slice none 0 0):=cell_of_row _ _ 3 _ _ _ hEE;have f3:wE.frozen? ⟨w.heap.size,3,none⟩=false:=frozen_of_row _ _ 3 _ _ hEE;go_enter Tryz.func36,Tryz.ntmps36
  go_wp2_with fail
  refine hatE.mono ?_;rintro e w' ⟨rfl,rfl⟩;go_wp2;refine bodyPost_ret (results_row_tmp2 rfl _ _ w.heap.size 54 #[.int .i64 4,.int .i64 (p:Int),.string ⟨#[]⟩,.slice none 0 0] (0,0) _ rfl ?_ Tryz.underlying54 rfl (by kernel_rfl)) rfl ?_
  · exact (heap_set (heap_set (heap_set (heap_set (heap_set (heap_set hEE _) _) _) _) _) _)
  rw [HO.out];exact .inr ⟨_,_,[],.slice none 0 0,rfl,rfl,upto_nil,by simp,World.ownsRow_nil _ _ _ _,(((((hr1.set hl 0 _).set hl 0 _).set hl 1 _).set hl 2 _).set hl 3 _),(((((hg1.andThen (grownR_set _ _ 0 _) HNEW.out).andThen (grownR_set _ _ 0 _) HNEW.out).andThen (grownR_set _ _ 1 _) HNEW.out).andThen (grownR_set _ _ 2 _) HNEW.out).andThen (grownR_set _ _ 3 _) HNEW.out)⟩
 | u::t,hrun,hul,hrE,hr1,HP0 =>
  have hpu:p=u.p:=HP0.out;obtain ⟨g,off,uc,u1,_,_,_,_,_,_,_,_,_⟩:=hrE.cons;have hz0:((t.length:Int)+1==0)=false:=by simp;omega
  have hne:w.heap.size≠R:=by omega
  have hpos:0<zs.length:=by obtain ⟨q,hq⟩:=hrun;have:=hq.1;omega
  cases h1:fitU nameB u with
  | true =>
   have H1:Hid (sgn nameB (u::t)=(some u.r,t)):=sgn_t h1;have HO:Hid (tokO zs.length (u::t)=OR.good ⟨1,p,u.r::(t.takeWhile (fitU nameR)).map U.r,[]⟩ (t.dropWhile (fitU nameR))):=by show _=_;rw [hpu];exact tokO_name h1
   have hsp:u::t=(u::t.takeWhile (fitU nameR))++t.dropWhile (fitU nameR):=by rw [List.cons_append,<- take_drop_while]
   have hrunD:Runs zs (t.dropWhile (fitU nameR)):=Runs.drop (a:=u::t.takeWhile (fitU nameR)) (by rw [<- hsp];exact hrun);have hcut:=runs_cut (a:=u::t.takeWhile (fitU nameR)) (b:=t.dropWhile (fitU nameR)) (by rw [<- hsp];exact hrun) (λv hv=>by
    rcases List.mem_cons.1 hv with rfl | hv
    · exact fit_name h1
    · exact fit_inName (takeWhile_all _ _ v hv))
   rw [<- hsp] at hcut;have hcut1:cutZ zs p (atL zs.length (t.dropWhile (fitU nameR)))=u.r::(t.takeWhile (fitU nameR)).map U.r:=by rw [hpu];exact hcut.1
   have hcut2:p<=atL zs.length (t.dropWhile (fitU nameR)):=by rw [hpu];exact hcut.2
   have HC1:Hid (cutZ zs p (atL zs.length (t.dropWhile (fitU nameR)))=u.r::(t.takeWhile (fitU nameR)).map U.r):=hcut1;have HC2:Hid (p<=atL zs.length (t.dropWhile (fitU nameR))):=hcut2;have HC3:=hrunD.at_le;clear hsp hcut hcut1 hcut2 h1 hpu;have d0:wE.cell? ⟨w.heap.size,0,none⟩=some (.int .i64 0):=cell_of_row _ _ 0 _ _ _ hEE;have f0:wE.frozen? ⟨w.heap.size,0,none⟩=false:=frozen_of_row _ _ 0 _ _ hEE;have d1:wE.cell? ⟨w.heap.size,1,none⟩=some (.int .i64 0):=cell_of_row _ _ 1 _ _ _ hEE;have f1:wE.frozen? ⟨w.heap.size,1,none⟩=false:=frozen_of_row _ _ 1 _ _ hEE;have d2:wE.cell? ⟨w.heap.size,2,none⟩=some (.string ⟨#[]⟩):=cell_of_row _ _ 2 _ _ _ hEE;have f2:wE.frozen? ⟨w.heap.size,2,none⟩=false:=frozen_of_row _ _ 2 _ _ hEE;have d3:wE.cell? ⟨w.heap.size,3,none⟩=some (.slice none 0 0):=cell_of_row _ _ 3 _ _ _ hEE;have f3:wE.frozen? ⟨w.heap.size,3,none⟩=false:=frozen_of_row _ _ 3 _ _ hEE;go_enter Tryz.func36,Tryz.ntmps36
   go_wp2_with fail
   refine hatE.mono ?_;rintro e w' ⟨rfl,rfl⟩;have htk2:=take0_any 76 nameB beginsName_any (enters_of Tryz.func76 (by kernel_rfl) rfl) _ R _ _ hr1;rw [H1.out] at htk2
   go_wp2_with fail
   refine htk2.mono ?_;rintro e w2 ⟨rfl,hr2,hgb2⟩;clear htk2;have hg2:w.grownBy w2 (some R):=hg1.trans hgb2;have hta:=takeAll_any 77 nameR isInName_any (enters_of Tryz.func77 (by kernel_rfl) rfl) w2 R _ _ hr2
   go_wp2_with fail
   refine hta.mono ?_;rintro e w3 ⟨rfl,hr3,hgb3⟩;have hg3:w.grownBy w3 (some R):=hg2.trans hgb3;have hgE3:(wE.setCell ⟨w.heap.size,1,none⟩ (.int .i64 (p:Int))).grownBy w3 (some R):=hgb2.trans hgb3;have hE3:=(hgE3.block w.heap.size (Array.getElem?_eq_some_iff.1 hE1).1 (by simp;omega)).trans hE1;have htx3:TxtAt R w3 (.slice ta zs.length cap) zs:=(HTX.out.set hl 1 _).grown hgE3;obtain ⟨tg,toff,rfl⟩ :∃g off,ta=some ⟨g,off,none⟩:=by
    obtain ⟨a,c,e,_,hi⟩:=htx3;obtain ⟨g,off,ha,_⟩:=hi 0 hpos;simp at e;exact ⟨g,off,by rw [e.1,ha]⟩
   have hsn:=since_any zs _ R p tg toff cap w3 hr3 htx3 hz HC2.out HC3;rw [HC1.out] at hsn;obtain ⟨s,hs⟩ :∃s,s=strOfNums (u.r::(t.takeWhile (fitU nameR)).map U.r):=⟨_,rfl⟩;rw [<- hs] at hsn;have HS:Hid (s=strOfNums (u.r::(t.takeWhile (fitU nameR)).map U.r)):=hs;clear hs hta d0 d1 d2 d3 f0 f1 f2 f3 u1;have d0:w3.cell? ⟨w.heap.size,0,none⟩=some (.int .i64 0):=cell_of_row _ _ 0 _ _ _ hE3;have f0:w3.frozen? ⟨w.heap.size,0,none⟩=false:=frozen_of_row _ _ 0 _ _ hE3;have d1:w3.cell? ⟨w.heap.size,1,none⟩=some (.int .i64 (p:Int)):=cell_of_row _ _ 1 _ _ _ hE3;have f1:w3.frozen? ⟨w.heap.size,1,none⟩=false:=frozen_of_row _ _ 1 _ _ hE3;have d2:w3.cell? ⟨w.heap.size,2,none⟩=some (.string ⟨#[]⟩):=cell_of_row _ _ 2 _ _ _ hE3;have f2:w3.frozen? ⟨w.heap.size,2,none⟩=false:=frozen_of_row _ _ 2 _ _ hE3;have d3:w3.cell? ⟨w.heap.size,3,none⟩=some (.slice none 0 0):=cell_of_row _ _ 3 _ _ _ hE3;have f3:w3.frozen? ⟨w.heap.size,3,none⟩=false:=frozen_of_row _ _ 3 _ _ hE3
   go_wp2_with fail
   refine hsn.mono ?_;rintro e w4 ⟨rfl,hgb4⟩;have hE4:=(hgb4.block w.heap.size (Array.getElem?_eq_some_iff.1 hE3).1 (by simp)).trans hE3;have hr4:=hr3.kept hgb4;have hg4:w.grownBy w4 (some R):=hg3.trans (hgb4.but _);clear hsn d0 d1 d2 d3 f0 f1 f2 f3;have d0:w4.cell? ⟨w.heap.size,0,none⟩=some (.int .i64 0):=cell_of_row _ _ 0 _ _ _ hE4;have f0:w4.frozen? ⟨w.heap.size,0,none⟩=false:=frozen_of_row _ _ 0 _ _ hE4;have d1:w4.cell? ⟨w.heap.size,1,none⟩=some (.int .i64 (p:Int)):=cell_of_row _ _ 1 _ _ _ hE4;have f1:w4.frozen? ⟨w.heap.size,1,none⟩=false:=frozen_of_row _ _ 1 _ _ hE4;have d2:w4.cell? ⟨w.heap.size,2,none⟩=some (.string ⟨#[]⟩):=cell_of_row _ _ 2 _ _ _ hE4;have f2:w4.frozen? ⟨w.heap.size,2,none⟩=false:=frozen_of_row _ _ 2 _ _ hE4;have d3:w4.cell? ⟨w.heap.size,3,none⟩=some (.slice none 0 0):=cell_of_row _ _ 3 _ _ _ hE4;have f3:w4.frozen? ⟨w.heap.size,3,none⟩=false:=frozen_of_row _ _ 3 _ _ hE4;go_wp2;refine bodyPost_ret (results_row_tmp2 rfl _ _ w.heap.size 54 #[.int .i64 1,.int .i64 (p:Int),.string s,.slice none 0 0] (0,0) _ rfl ?_ Tryz.underlying54 rfl (by kernel_rfl)) rfl ?_
   · exact (heap_set (heap_set (heap_set (heap_set (heap_set (heap_set hE4 _) _) _) _) _) _)
   rw [HO.out];exact .inr ⟨_,_,[],.slice none 0 0,rfl,(by have e:=HS.out;subst e;rfl),upto_nil,by simp,World.ownsRow_nil _ _ _ _,((((((hr4.set hl 0 _).set hl 2 _).set hl 0 _).set hl 1 _).set hl 2 _).set hl 3 _),((((((hg4.andThen (grownR_set _ _ 0 _) HNEW.out).andThen (grownR_set _ _ 2 _) HNEW.out).andThen (grownR_set _ _ 0 _) HNEW.out).andThen (grownR_set _ _ 1 _) HNEW.out).andThen (grownR_set _ _ 2 _) HNEW.out).andThen (grownR_set _ _ 3 _) HNEW.out)⟩
  | false =>
   have H1:Hid (sgn nameB (u::t)=(none,u::t)):=sgn_f h1;cases h2:fitU tokR u with
   | true =>
    have H2:Hid (sgn tokR (u::t)=(some u.r,t)):=sgn_t h2;have HO:Hid (tokO zs.length (u::t)=OR.good ⟨2,p,[u.r],[]⟩ t):=by show _=_;rw [hpu];exact tokO_tok h1 h2
    have hrunD:Runs zs t:=hrun.tail;have hcut:=runs_cut (a:=[u]) (b:=t) hrun (λv hv=>by
     obtain rfl:v=u:=by simpa using hv
     exact fit_tok h2)
    have hcut1:cutZ zs p (atL zs.length t)=[u.r]:=by rw [hpu];exact hcut.1
    have hcut2:p<=atL zs.length t:=by rw [hpu];exact hcut.2
    have HC1:Hid (cutZ zs p (atL zs.length t)=[u.r]):=hcut1;have HC2:Hid (p<=atL zs.length t):=hcut2;have HC3:=hrunD.at_le;clear hcut hcut1 hcut2 h1 h2 hpu;have d0:wE.cell? ⟨w.heap.size,0,none⟩=some (.int .i64 0):=cell_of_row _ _ 0 _ _ _ hEE;have f0:wE.frozen? ⟨w.heap.size,0,none⟩=false:=frozen_of_row _ _ 0 _ _ hEE;have d1:wE.cell? ⟨w.heap.size,1,none⟩=some (.int .i64 0):=cell_of_row _ _ 1 _ _ _ hEE;have f1:wE.frozen? ⟨w.heap.size,1,none⟩=false:=frozen_of_row _ _ 1 _ _ hEE;have d2:wE.cell? ⟨w.heap.size,2,none⟩=some (.string ⟨#[]⟩):=cell_of_row _ _ 2 _ _ _ hEE;have f2:wE.frozen? ⟨w.heap.size,2,none⟩=false:=frozen_of_row _ _ 2 _ _ hEE;have d3:wE.cell? ⟨w.heap.size,3,none⟩=some (.slice none 0 0):=cell_of_row _ _ 3 _ _ _ hEE;have f3:wE.frozen? ⟨w.heap.size,3,none⟩=false:=frozen_of_row _ _ 3 _ _ hEE;go_enter Tryz.func36,Tryz.ntmps36
    go_wp2_with fail
    refine hatE.mono ?_;rintro e w' ⟨rfl,rfl⟩;have htk2:=take0_any 76 nameB beginsName_any (enters_of Tryz.func76 (by kernel_rfl) rfl) _ R _ _ hr1;rw [H1.out] at htk2
    go_wp2_with fail
    refine htk2.mono ?_;rintro e w2 ⟨rfl,hr2,hgb2⟩;clear htk2;have hg2:w.grownBy w2 (some R):=hg1.trans hgb2;have htk3:=take0_any 79 tokR isToken_any (enters_of Tryz.func79 (by kernel_rfl) rfl) w2 R _ _ hr2;rw [H2.out] at htk3
    go_wp2_with fail
    refine htk3.mono ?_;rintro e w3 ⟨rfl,hr3,hgb3⟩;clear htk3;have hg3:w.grownBy w3 (some R):=hg2.trans hgb3;have hgE3:(wE.setCell ⟨w.heap.size,1,none⟩ (.int .i64 (p:Int))).grownBy w3 (some R):=hgb2.trans hgb3;have hE3:=(hgE3.block w.heap.size (Array.getElem?_eq_some_iff.1 hE1).1 (by simp;omega)).trans hE1;have htx3:TxtAt R w3 (.slice ta zs.length cap) zs:=(HTX.out.set hl 1 _).grown hgE3;obtain ⟨tg,toff,rfl⟩ :∃g off,ta=some ⟨g,off,none⟩:=by
     obtain ⟨a,c,e,_,hi⟩:=htx3;obtain ⟨g,off,ha,_⟩:=hi 0 hpos;simp at e;exact ⟨g,off,by rw [e.1,ha]⟩
    have hsn:=since_any zs _ R p tg toff cap w3 hr3 htx3 hz HC2.out HC3;rw [HC1.out] at hsn;obtain ⟨s,hs⟩ :∃s,s=strOfNums [u.r]:=⟨_,rfl⟩;rw [<- hs] at hsn;have HS:Hid (s=strOfNums [u.r]):=hs;clear hs d0 d1 d2 d3 f0 f1 f2 f3 u1;have d0:w3.cell? ⟨w.heap.size,0,none⟩=some (.int .i64 0):=cell_of_row _ _ 0 _ _ _ hE3;have f0:w3.frozen? ⟨w.heap.size,0,none⟩=false:=frozen_of_row _ _ 0 _ _ hE3;have d1:w3.cell? ⟨w.heap.size,1,none⟩=some (.int .i64 (p:Int)):=cell_of_row _ _ 1 _ _ _ hE3;have f1:w3.frozen? ⟨w.heap.size,1,none⟩=false:=frozen_of_row _ _ 1 _ _ hE3;have d2:w3.cell? ⟨w.heap.size,2,none⟩=some (.string ⟨#[]⟩):=cell_of_row _ _ 2 _ _ _ hE3;have f2:w3.frozen? ⟨w.heap.size,2,none⟩=false:=frozen_of_row _ _ 2 _ _ hE3;have d3:w3.cell? ⟨w.heap.size,3,none⟩=some (.slice none 0 0):=cell_of_row _ _ 3 _ _ _ hE3;have f3:w3.frozen? ⟨w.heap.size,3,none⟩=false:=frozen_of_row _ _ 3 _ _ hE3
    go_wp2_with fail
    refine hsn.mono ?_;rintro e w4 ⟨rfl,hgb4⟩;have hE4:=(hgb4.block w.heap.size (Array.getElem?_eq_some_iff.1 hE3).1 (by simp)).trans hE3;have hr4:=hr3.kept hgb4;have hg4:w.grownBy w4 (some R):=hg3.trans (hgb4.but _);clear hsn d0 d1 d2 d3 f0 f1 f2 f3;have d0:w4.cell? ⟨w.heap.size,0,none⟩=some (.int .i64 0):=cell_of_row _ _ 0 _ _ _ hE4;have f0:w4.frozen? ⟨w.heap.size,0,none⟩=false:=frozen_of_row _ _ 0 _ _ hE4;have d1:w4.cell? ⟨w.heap.size,1,none⟩=some (.int .i64 (p:Int)):=cell_of_row _ _ 1 _ _ _ hE4;have f1:w4.frozen? ⟨w.heap.size,1,none⟩=false:=frozen_of_row _ _ 1 _ _ hE4;have d2:w4.cell? ⟨w.heap.size,2,none⟩=some (.string ⟨#[]⟩):=cell_of_row _ _ 2 _ _ _ hE4;have f2:w4.frozen? ⟨w.heap.size,2,none⟩=false:=frozen_of_row _ _ 2 _ _ hE4;have d3:w4.cell? ⟨w.heap.size,3,none⟩=some (.slice none 0 0):=cell_of_row _ _ 3 _ _ _ hE4;have f3:w4.frozen? ⟨w.heap.size,3,none⟩=false:=frozen_of_row _ _ 3 _ _ hE4;go_wp2;refine bodyPost_ret (results_row_tmp2 rfl _ _ w.heap.size 54 #[.int .i64 2,.int .i64 (p:Int),.string s,.slice none 0 0] (0,0) _ rfl ?_ Tryz.underlying54 rfl (by kernel_rfl)) rfl ?_
    · exact (heap_set (heap_set (heap_set (heap_set (heap_set (heap_set hE4 _) _) _) _) _) _)
    rw [HO.out];exact .inr ⟨_,_,[],.slice none 0 0,rfl,(by have e:=HS.out;subst e;rfl),upto_nil,by simp,World.ownsRow_nil _ _ _ _,((((((hr4.set hl 0 _).set hl 2 _).set hl 0 _).set hl 1 _).set hl 2 _).set hl 3 _),((((((hg4.andThen (grownR_set _ _ 0 _) HNEW.out).andThen (grownR_set _ _ 2 _) HNEW.out).andThen (grownR_set _ _ 0 _) HNEW.out).andThen (grownR_set _ _ 1 _) HNEW.out).andThen (grownR_set _ _ 2 _) HNEW.out).andThen (grownR_set _ _ 3 _) HNEW.out)⟩
   | false =>
    have H2:Hid (sgn tokR (u::t)=(none,u::t)):=sgn_f h2;cases h3:fitU (isC 91) u with
    | true =>
     have H3:Hid (sgn (isC 91) (u::t)=(some u.r,t)):=sgn_t h3;have HO:Hid (tokO zs.length (u::t)=ofSet p (setF zs.length (t.length+1) t [])):=by show _=_;rw [hpu];exact tokO_set h1 h2 h3
     have hrunD:Runs zs t:=hrun.tail;clear h1 h2 h3 hpu;have d0:wE.cell? ⟨w.heap.size,0,none⟩=some (.int .i64 0):=cell_of_row _ _ 0 _ _ _ hEE;have f0:wE.frozen? ⟨w.heap.size,0,none⟩=false:=frozen_of_row _ _ 0 _ _ hEE;have d1:wE.cell? ⟨w.heap.size,1,none⟩=some (.int .i64 0):=cell_of_row _ _ 1 _ _ _ hEE;have f1:wE.frozen? ⟨w.heap.size,1,none⟩=false:=frozen_of_row _ _ 1 _ _ hEE;have d2:wE.cell? ⟨w.heap.size,2,none⟩=some (.string ⟨#[]⟩):=cell_of_row _ _ 2 _ _ _ hEE;have f2:wE.frozen? ⟨w.heap.size,2,none⟩=false:=frozen_of_row _ _ 2 _ _ hEE;have d3:wE.cell? ⟨w.heap.size,3,none⟩=some (.slice none 0 0):=cell_of_row _ _ 3 _ _ _ hEE;have f3:wE.frozen? ⟨w.heap.size,3,none⟩=false:=frozen_of_row _ _ 3 _ _ hEE;go_enter Tryz.func36,Tryz.ntmps36
     go_wp2_with fail
     refine hatE.mono ?_;rintro e w' ⟨rfl,rfl⟩;have htk2:=take0_any 76 nameB beginsName_any (enters_of Tryz.func76 (by kernel_rfl) rfl) _ R _ _ hr1;rw [H1.out] at htk2
     go_wp2_with fail
     refine htk2.mono ?_;rintro e w2 ⟨rfl,hr2,hgb2⟩;clear htk2;have hg2:w.grownBy w2 (some R):=hg1.trans hgb2;have htk3:=take0_any 79 tokR isToken_any (enters_of Tryz.func79 (by kernel_rfl) rfl) w2 R _ _ hr2;rw [H2.out] at htk3
     go_wp2_with fail
     refine htk3.mono ?_;rintro e w3 ⟨rfl,hr3,hgb3⟩;clear htk3;have hg3:w.grownBy w3 (some R):=hg2.trans hgb3;have hra4:=hr3.alloc (.cells #[.int .i64 91] 3);have hga4:w.grownBy (w3.alloc (.cells #[.int .i64 91] 3)) (some R):=hg3.trans (World.grownBy_alloc _ _ _);have htk4:=take1_any w3.heap.size 91 _ R _ _ hra4 (World.cell?_alloc_new _ _ _ _);rw [H3.out] at htk4
     go_wp2_with fail
     refine (is_any _ _).mono ?_;rintro e w' ⟨rfl,rfl⟩
     go_wp2_with fail
     refine htk4.mono ?_;rintro e w4 ⟨rfl,hr4,hgb4⟩;have hg4:w.grownBy w4 (some R):=hga4.trans hgb4;clear htk4 hra4 hga4;have hgE4:(wE.setCell ⟨w.heap.size,1,none⟩ (.int .i64 (p:Int))).grownBy w4 (some R):=((hgb2.trans hgb3).trans (World.grownBy_alloc _ _ _)).trans hgb4;have hE4:=(hgE4.block w.heap.size (Array.getElem?_eq_some_iff.1 hE1).1 (by simp;omega)).trans hE1;have hE5:(w4.setCell ⟨w.heap.size,0,none⟩ (.int .i64 3)).heap[w.heap.size]? = some (.cells #[.int .i64 3,.int .i64 (p:Int),.string ⟨#[]⟩,.slice none 0 0] 54 (0,0)):=heap_set hE4 _;have htx4:TxtAt R w4 (.slice ta zs.length cap) zs:=(HTX.out.set hl 1 _).grown hgE4;have hg5:w.grownBy (w4.setCell ⟨w.heap.size,0,none⟩ (.int .i64 3)) (some R):=hg4.andThen (grownR_set _ _ 0 _) HNEW.out;have hst:=set_any zs t R ta cap (w4.setCell ⟨w.heap.size,0,none⟩ (.int .i64 3)) (hr4.set hl 0 _) (htx4.set hl 0 _) hz (by simp at hul;omega) hpos hrunD;have hs5:=hg5.size;obtain ⟨sr,hsr⟩ :∃sr,sr=setF zs.length (t.length+1) t []:=⟨_,rfl⟩;rw [<- hsr] at hst HO;clear hsr d0 d1 d2 d3 f0 f1 f2 f3 u1;have d0:w4.cell? ⟨w.heap.size,0,none⟩=some (.int .i64 0):=cell_of_row _ _ 0 _ _ _ hE4;have f0:w4.frozen? ⟨w.heap.size,0,none⟩=false:=frozen_of_row _ _ 0 _ _ hE4;have d1:w4.cell? ⟨w.heap.size,1,none⟩=some (.int .i64 (p:Int)):=cell_of_row _ _ 1 _ _ _ hE4;have f1:w4.frozen? ⟨w.heap.size,1,none⟩=false:=frozen_of_row _ _ 1 _ _ hE4;have d2:w4.cell? ⟨w.heap.size,2,none⟩=some (.string ⟨#[]⟩):=cell_of_row _ _ 2 _ _ _ hE4;have f2:w4.frozen? ⟨w.heap.size,2,none⟩=false:=frozen_of_row _ _ 2 _ _ hE4;have d3:w4.cell? ⟨w.heap.size,3,none⟩=some (.slice none 0 0):=cell_of_row _ _ 3 _ _ _ hE4;have f3:w4.frozen? ⟨w.heap.size,3,none⟩=false:=frozen_of_row _ _ 3 _ _ hE4
     go_wp2_with fail
     refine hst.mono ?_;rintro e w6 (⟨a,x,rfl,rfl,hx,hgb6⟩ | ⟨l,r,s,v,rfl,rfl,hup,hsl,hown,hr6,hgb6⟩)
     · have hE6:=(hgb6.block w.heap.size (Array.getElem?_eq_some_iff.1 hE5).1 (by simp;omega)).trans hE5;have hg6:w.grownBy w6 (some R):=hg5.trans hgb6;clear hst d0 d1 d2 d3 f0 f1 f2 f3;have d0:w6.cell? ⟨w.heap.size,0,none⟩=some (.int .i64 3):=cell_of_row _ _ 0 _ _ _ hE6;have f0:w6.frozen? ⟨w.heap.size,0,none⟩=false:=frozen_of_row _ _ 0 _ _ hE6;have d1:w6.cell? ⟨w.heap.size,1,none⟩=some (.int .i64 (p:Int)):=cell_of_row _ _ 1 _ _ _ hE6;have f1:w6.frozen? ⟨w.heap.size,1,none⟩=false:=frozen_of_row _ _ 1 _ _ hE6;have d2:w6.cell? ⟨w.heap.size,2,none⟩=some (.string ⟨#[]⟩):=cell_of_row _ _ 2 _ _ _ hE6;have f2:w6.frozen? ⟨w.heap.size,2,none⟩=false:=frozen_of_row _ _ 2 _ _ hE6;have d3:w6.cell? ⟨w.heap.size,3,none⟩=some (.slice none 0 0):=cell_of_row _ _ 3 _ _ _ hE6;have f3:w6.frozen? ⟨w.heap.size,3,none⟩=false:=frozen_of_row _ _ 3 _ _ hE6;go_wp2;refine bodyPost_ret (results_row_tmp2 rfl _ _ w.heap.size 54 #[.int .i64 3,.int .i64 (p:Int),.string ⟨#[]⟩,.slice none 0 0] (0,0) _ rfl ?_ Tryz.underlying54 rfl (by kernel_rfl)) rfl ?_
       · exact (heap_set (heap_set (heap_set (heap_set (heap_set hE6 _) _) _) _) _)
       rw [HO.out];exact .inl ⟨a,x,3,p,rfl,rfl,hx,(((((hg6.andThen (grownR_set _ _ 3 _) HNEW.out).andThen (grownR_set _ _ 0 _) HNEW.out).andThen (grownR_set _ _ 1 _) HNEW.out).andThen (grownR_set _ _ 2 _) HNEW.out).andThen (grownR_set _ _ 3 _) HNEW.out)⟩
     · have hE6:=(hgb6.block w.heap.size (Array.getElem?_eq_some_iff.1 hE5).1 (by simp;omega)).trans hE5;have hg6:w.grownBy w6 (some R):=hg5.trans hgb6;have HUP:Hid (Upto (hasR l) s 1114112):=hup;obtain ⟨va,vc,rfl,_,_⟩:=rng_of_row hown;have HOW:Hid (w6.ownsRow (w4.setCell ⟨w.heap.size,0,none⟩ (.int .i64 3)).heap.size 94 2 (.slice va s.length vc) s.length (cellsRs s)):=hown;have hwE4:w.heap.size<(w4.setCell ⟨w.heap.size,0,none⟩ (.int .i64 3)).heap.size:=(Array.getElem?_eq_some_iff.1 hE5).1;clear hst d0 d1 d2 d3 f0 f1 f2 f3 hup hown;have d0:w6.cell? ⟨w.heap.size,0,none⟩=some (.int .i64 3):=cell_of_row _ _ 0 _ _ _ hE6;have f0:w6.frozen? ⟨w.heap.size,0,none⟩=false:=frozen_of_row _ _ 0 _ _ hE6;have d1:w6.cell? ⟨w.heap.size,1,none⟩=some (.int .i64 (p:Int)):=cell_of_row _ _ 1 _ _ _ hE6;have f1:w6.frozen? ⟨w.heap.size,1,none⟩=false:=frozen_of_row _ _ 1 _ _ hE6;have d2:w6.cell? ⟨w.heap.size,2,none⟩=some (.string ⟨#[]⟩):=cell_of_row _ _ 2 _ _ _ hE6;have f2:w6.frozen? ⟨w.heap.size,2,none⟩=false:=frozen_of_row _ _ 2 _ _ hE6;have d3:w6.cell? ⟨w.heap.size,3,none⟩=some (.slice none 0 0):=cell_of_row _ _ 3 _ _ _ hE6;have f3:w6.frozen? ⟨w.heap.size,3,none⟩=false:=frozen_of_row _ _ 3 _ _ hE6;go_wp2;refine bodyPost_ret (results_row_tmp2 rfl _ _ w.heap.size 54 #[.int .i64 3,.int .i64 (p:Int),.string ⟨#[]⟩,.slice va s.length vc] (0,0) _ rfl ?_ Tryz.underlying54 rfl (by kernel_rfl)) rfl ?_
       · exact (heap_set (heap_set (heap_set (heap_set (heap_set hE6 _) _) _) _) _)
       rw [HO.out];refine .inr ⟨_,_,s,.slice va s.length vc,rfl,rfl,HUP.out,hsl,?_,(((((hr6.set hl 3 _).set hl 0 _).set hl 1 _).set hl 2 _).set hl 3 _),(((((hg6.andThen (grownR_set _ _ 3 _) HNEW.out).andThen (grownR_set _ _ 0 _) HNEW.out).andThen (grownR_set _ _ 1 _) HNEW.out).andThen (grownR_set _ _ 2 _) HNEW.out).andThen (grownR_set _ _ 3 _) HNEW.out)⟩;exact own_mono (own_kept (own_kept (own_kept (own_kept (own_kept HOW.out hwE4 (grownR_set _ _ 3 _)) hwE4 (grownR_set _ _ 0 _)) hwE4 (grownR_set _ _ 1 _)) hwE4 (grownR_set _ _ 2 _)) hwE4 (grownR_set _ _ 3 _)) hs5
    | false =>
     have H3:Hid (sgn (isC 91) (u::t)=(none,u::t)):=sgn_f h3;have HO:Hid (tokO zs.length (u::t)=OR.bad p 6):=by show _=_;rw [hpu];exact tokO_bad h1 h2 h3
     have HP:Hid (p=u.p):=hpu;clear h1 h2 h3 hpu;have d0:wE.cell? ⟨w.heap.size,0,none⟩=some (.int .i64 0):=cell_of_row _ _ 0 _ _ _ hEE;have f0:wE.frozen? ⟨w.heap.size,0,none⟩=false:=frozen_of_row _ _ 0 _ _ hEE;have d1:wE.cell? ⟨w.heap.size,1,none⟩=some (.int .i64 0):=cell_of_row _ _ 1 _ _ _ hEE;have f1:wE.frozen? ⟨w.heap.size,1,none⟩=false:=frozen_of_row _ _ 1 _ _ hEE;have d2:wE.cell? ⟨w.heap.size,2,none⟩=some (.string ⟨#[]⟩):=cell_of_row _ _ 2 _ _ _ hEE;have f2:wE.frozen? ⟨w.heap.size,2,none⟩=false:=frozen_of_row _ _ 2 _ _ hEE;have d3:wE.cell? ⟨w.heap.size,3,none⟩=some (.slice none 0 0):=cell_of_row _ _ 3 _ _ _ hEE;have f3:wE.frozen? ⟨w.heap.size,3,none⟩=false:=frozen_of_row _ _ 3 _ _ hEE;go_enter Tryz.func36,Tryz.ntmps36
     go_wp2_with fail
     refine hatE.mono ?_;rintro e w' ⟨rfl,rfl⟩;have htk2:=take0_any 76 nameB beginsName_any (enters_of Tryz.func76 (by kernel_rfl) rfl) _ R _ _ hr1;rw [H1.out] at htk2
     go_wp2_with fail
     refine htk2.mono ?_;rintro e w2 ⟨rfl,hr2,hgb2⟩;clear htk2;have hg2:w.grownBy w2 (some R):=hg1.trans hgb2;have htk3:=take0_any 79 tokR isToken_any (enters_of Tryz.func79 (by kernel_rfl) rfl) w2 R _ _ hr2;rw [H2.out] at htk3
     go_wp2_with fail
     refine htk3.mono ?_;rintro e w3 ⟨rfl,hr3,hgb3⟩;clear htk3;have hg3:w.grownBy w3 (some R):=hg2.trans hgb3;have hra4:=hr3.alloc (.cells #[.int .i64 91] 3);have hga4:w.grownBy (w3.alloc (.cells #[.int .i64 91] 3)) (some R):=hg3.trans (World.grownBy_alloc _ _ _);have htk4:=take1_any w3.heap.size 91 _ R _ _ hra4 (World.cell?_alloc_new _ _ _ _);rw [H3.out] at htk4
     go_wp2_with fail
     refine (is_any _ _).mono ?_;rintro e w' ⟨rfl,rfl⟩
     go_wp2_with fail
     refine htk4.mono ?_;rintro e w4 ⟨rfl,hr4,hgb4⟩;have hg4:w.grownBy w4 (some R):=hga4.trans hgb4;clear htk4 hra4 hga4;have hgE4:(wE.setCell ⟨w.heap.size,1,none⟩ (.int .i64 (p:Int))).grownBy w4 (some R):=((hgb2.trans hgb3).trans (World.grownBy_alloc _ _ _)).trans hgb4;have hE4:=(hgE4.block w.heap.size (Array.getElem?_eq_some_iff.1 hE1).1 (by simp;omega)).trans hE1;have hstk:Calls Tryz.prog 81 #[.pointer (some ⟨R,0,none⟩)] w4 λe w'=>e = .returned (.tuple #[.int .i64 (p:Int),.int .i64 6])/\w4=w':=by
      have:=stuck_any _ R _ _ _ w4 hr4;rw [show atL zs.length (u::t)=p from HP.out.symm] at this;exact this
     clear d0 d1 d2 d3 f0 f1 f2 f3 u1;have d0:w4.cell? ⟨w.heap.size,0,none⟩=some (.int .i64 0):=cell_of_row _ _ 0 _ _ _ hE4;have f0:w4.frozen? ⟨w.heap.size,0,none⟩=false:=frozen_of_row _ _ 0 _ _ hE4;have d1:w4.cell? ⟨w.heap.size,1,none⟩=some (.int .i64 (p:Int)):=cell_of_row _ _ 1 _ _ _ hE4;have f1:w4.frozen? ⟨w.heap.size,1,none⟩=false:=frozen_of_row _ _ 1 _ _ hE4;have d2:w4.cell? ⟨w.heap.size,2,none⟩=some (.string ⟨#[]⟩):=cell_of_row _ _ 2 _ _ _ hE4;have f2:w4.frozen? ⟨w.heap.size,2,none⟩=false:=frozen_of_row _ _ 2 _ _ hE4;have d3:w4.cell? ⟨w.heap.size,3,none⟩=some (.slice none 0 0):=cell_of_row _ _ 3 _ _ _ hE4;have f3:w4.frozen? ⟨w.heap.size,3,none⟩=false:=frozen_of_row _ _ 3 _ _ hE4
     go_wp2_with fail
     refine hstk.mono ?_;rintro e w' ⟨rfl,rfl⟩;go_wp2;refine bodyPost_ret (results_row_tmp2 rfl _ _ w.heap.size 54 #[.int .i64 0,.int .i64 (p:Int),.string ⟨#[]⟩,.slice none 0 0] (0,0) _ rfl ?_ Tryz.underlying54 rfl (by kernel_rfl)) rfl ?_
     · exact (heap_set (heap_set (heap_set (heap_set hE4 _) _) _) _)
     rw [HO.out];exact .inl ⟨p,6,0,p,rfl,rfl,by decide,((((hg4.andThen (grownR_set _ _ 0 _) HNEW.out).andThen (grownR_set _ _ 1 _) HNEW.out).andThen (grownR_set _ _ 2 _) HNEW.out).andThen (grownR_set _ _ 3 _) HNEW.out)⟩
end Go.Proofs.YtfdjchnckjgapaaGreatDoor
