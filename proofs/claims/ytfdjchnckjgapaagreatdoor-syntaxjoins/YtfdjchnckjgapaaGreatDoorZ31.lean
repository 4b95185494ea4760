/-
  RRulP REnyP S1Put
-/
import Derived.Test.YtfdjchnckjgapaaGreatDoorZ30
import Derived.Test.YtfdjchnckjgapaaGreatDoorZ22
import Derived.Test.YtfdjchnckjgapaaGreatDoorZ00
import Derived.OwnWalk
import Derived.Outline
import Derived.Maps.AppendAt
import Derived.Deep.RegionHeld3
import Derived.Deep.AppendLies
namespace Go.Proofs.YtfdjchnckjgapaaGreatDoor
set_option maxHeartbeats 32000000
set_option maxRecDepth 100000
open Go.RowKit Go.Shelf S1
set_option linter.unusedVariables false
def REnA (c:Pc) (P:Nat) (E:List Int) (q:(List Tok×Int) ⊕ (Nms×List Rl×List Tok×Sts)) (w:World) (e:Ending) (w':World):Prop :=
 e = .returned (.tuple #[])/\Below c.base w w'/\((∃x c' X r st,x≠0/\q = .inl (r,((x:Nat):Int))/\Pa c' X P w' r st x)\/(∃rv N rs r st,q = .inr (N,rs.map Prod.fst,r,st)/\PT (c.up rv N) P w' rs r st/\GN E N))
theorem rentry_bad (c:Pc) (X:Nat->Prop) (P:Nat) (w:World) (t:Tok) (r:List Tok) (st:Sts) (hpa:Pa c X P w (t::r) st 0) (hb:(t.k==1&&keptB t.t)=false) :
 Calls Tryz.prog 23 #[.pointer (some ⟨P,0,none⟩)] w λe w'=>e = .returned (.tuple #[])/\Pa c X P w' (t::r) st 6/\Fr w.heap.size P w w':=by
 have hPl:=hpa.lt;have h1:=now_any c X P w t r st 0 hpa;have hby:Byt t.t:=by
  obtain ⟨_,_,_,_,_,_,_,_,_,_,_,_,_,_,_,hby,_,_⟩:=hpa.next;exact hby
 have HPA:Hid (Pa c X P w (t::r) st 0):=hpa;have HBY:Hid (Byt t.t):=hby;clear hpa hby;go_enter Tryz.func23,Tryz.ntmps23
 go_wp2_with fail
 refine h1.mono ?_;rintro e w1 ⟨v,rfl,hr,hB1⟩;obtain ⟨va,vc,rfl⟩:=hr.slice;unfold tokV;have hB2:Below w.heap.size w (w1.alloc (.cells #[.int .i64 t.k,.int .i64 (t.p:Int),.string (strOfNums t.t),.slice va t.s.length vc] 54)):=below_after hB1 (below_alloc _ _);have hfl:Calls Tryz.prog 47 #[.pointer (some ⟨P,0,none⟩),.int .i64 6] _ λe w'=>e = .returned (.tuple #[])/\Pa c X P w' (t::r) st 6/\Fr _ P _ w':=fail_any c X P _ st 0 (HPA.out.below hB2) 6 (by decide);have HF2:Hid (Fr w.heap.size P w (w1.alloc (.cells #[.int .i64 t.k,.int .i64 (t.p:Int),.string (strOfNums t.t),.slice va t.s.length vc] 54))):=HPA.out.fr hB2;have h2:=kept_any t.t HBY.out (w1.alloc (.cells #[.int .i64 t.k,.int .i64 (t.p:Int),.string (strOfNums t.t),.slice va t.s.length vc] 54));clear h1 hr hB1 hB2;by_cases hk:t.k=1
 · have hk':(t.k != 1)=false:=by simp [hk]
   have hkp:keptB t.t=false:=by simpa [hk] using hb
   rw [hkp] at h2;clear hk hkp hb
   go_wp2_with fail
   refine h2.mono ?_;rintro e w9 ⟨rfl,rfl⟩;clear h2
   go_wp2_with fail
   refine hfl.mono ?_;rintro e w6 ⟨rfl,hp6,hf6⟩;clear hfl;go_wp2;refine bodyPost_ret (results_none rfl _ _ _) rfl ?_;exact ⟨rfl,hp6,HF2.out.then hf6 HF2.out.size⟩
 · have hk':(t.k != 1)=true:=by simpa using hk
   clear hk hb h2
   go_wp2_with fail
   refine hfl.mono ?_;rintro e w6 ⟨rfl,hp6,hf6⟩;clear hfl;go_wp2;refine bodyPost_ret (results_none rfl _ _ _) rfl ?_;exact ⟨rfl,hp6,HF2.out.then hf6 HF2.out.size⟩
theorem rrule_any (c:Pc) (P:Nat) (w:World) (rs:List RlV) (t:Tok) (r:List Tok) (st:Sts) (E:List Int) (hgn:GN E c.N) (hpt:PT c P w rs (t::r) st) (hr:tkRule t=true) (hw:tkWord wSet t=false) :
 Calls Tryz.prog 23 #[.pointer (some ⟨P,0,none⟩)] w λe w'=>REnA c P E (senM c.N (rs.map Prod.fst) (t::r) st) w e w':=by
 obtain ⟨i0,hi0,hz0,hz1,hz2⟩:=info_parts Tryz.infoRule8;have hPl:=hpt.1.lt;have h1:=now_any c _ P w t r st 0 hpt.1;have hby:Byt t.t:=by
  obtain ⟨_,_,_,_,_,_,_,_,_,_,_,_,_,_,_,hby,_,_⟩:=hpt.1.next;exact hby
 obtain ⟨q,hq⟩ :∃q,q=senM c.N (rs.map Prod.fst) (t::r) st:=⟨_,rfl⟩;rw [<- hq];have HQ:Hid (q=senM c.N (rs.map Prod.fst) (t::r) st):=hq;have HPT:Hid (PT c P w rs (t::r) st):=hpt;have HGN:Hid (GN E c.N):=hgn;have HR0:Hid (tkRule t=true):=hr;have HW0:Hid (tkWord wSet t=false):=hw;have hk1:t.k=1:=by
  simp only [tkRule,Bool.or_eq_true] at hr;rcases hr with h | h<;>exact (word_k h).1
 have hkt:keptB t.t=true:=by
  simp only [tkRule,Bool.or_eq_true] at hr;rcases hr with h | h
  · rw [(word_k h).2];rfl
  · rw [(word_k h).2];rfl
 have hk1':(t.k != 1)=false:=by simp [hk1]
 have sset0:((strOfNums t.t).toList==([115,101,116]:List UInt8))=decide (t.t=wSet):=strB_eq hby wSet byt_set rfl;have sset:((strOfNums t.t).toList==([115,101,116]:List UInt8))=false:=by
  rw [sset0];have hw2:=hw;simp [tkWord,hk1] at hw2;simp [hw2]
 obtain ⟨bb,hbb⟩ :∃bb,bb=tkWord wBreak t:=⟨_,rfl⟩;have sbr0:((strOfNums t.t).toList==([98,114,101,97,107]:List UInt8))=decide (t.t=wBreak):=strB_eq hby wBreak byt_break rfl;have sbr:((strOfNums t.t).toList==([98,114,101,97,107]:List UInt8))=bb:=by
  rw [sbr0,hbb];by_cases h:t.t=wBreak<;>simp [tkWord,hk1,h]
 have HBB:Hid (bb=tkWord wBreak t):=hbb;have HBY:Hid (Byt t.t):=hby;have hbP:=hpt.1.rv.2.2;clear hq hpt hgn hr hw hby hk1 sset0 sbr0 hbb;go_enter Tryz.func23,Tryz.ntmps23
 go_wp2_with fail
 refine h1.mono ?_;rintro e w1 ⟨v,rfl,hr,hB1⟩;obtain ⟨va,vc,rfl⟩:=hr.slice;unfold tokV;have h2:=kept_any t.t HBY.out (w1.alloc (.cells #[.int .i64 t.k,.int .i64 (t.p:Int),.string (strOfNums t.t),.slice va t.s.length vc] 54));rw [hkt] at h2;have hp1:=HPT.out.1.below hB1;have hPl1:=hp1.lt;have HPT1:Hid (PT c P w1 rs (t::r) st):=HPT.out.below hB1;have HF01:Hid (Fr w.heap.size P w w1):=HPT.out.1.fr hB1;obtain ⟨c4,f4,_⟩:=hp1.rv;obtain ⟨ra,rc,hrv⟩ :∃a cp,c.rv = .slice a rs.length cp:=by
  rcases HPT.out.2.1.2 with ⟨e1,e2⟩ | ⟨g,cap,cur,e1,_⟩
  · exact ⟨none,0,by rw [e1,e2]⟩
  · exact ⟨_,_,e1⟩
 rw [hrv] at c4;have HRV:Hid (c.rv = .slice ra rs.length rc):=hrv;clear h1 hr hB1 hkt hrv;by_cases h64:rs.length=64
 · have h64':decide ((rs.length:Int) ≥ 64)=true:=by simp;omega
   have HE:Hid (q = .inl (t::r,3)):=by
    show _=_;rw [HQ.out];unfold senM;rw [if_neg (by simp [hdT,HW0.out]),if_neg (by simp [hdT,HR0.out]),if_pos (by simpa using h64)]
   have hB2:Below w1.heap.size w1 (w1.alloc (.cells #[.int .i64 t.k,.int .i64 (t.p:Int),.string (strOfNums t.t),.slice va t.s.length vc] 54)):=below_alloc _ _;have hfl:Calls Tryz.prog 47 #[.pointer (some ⟨P,0,none⟩),.int .i64 3] (w1.alloc (.cells #[.int .i64 t.k,.int .i64 (t.p:Int),.string (strOfNums t.t),.slice va t.s.length vc] 54)) λe w'=>e = .returned (.tuple #[])/\Pa c (XV NoX c.rv) P w' (t::r) st 3/\Fr (w1.alloc (.cells #[.int .i64 t.k,.int .i64 (t.p:Int),.string (strOfNums t.t),.slice va t.s.length vc] 54)).heap.size P (w1.alloc (.cells #[.int .i64 t.k,.int .i64 (t.p:Int),.string (strOfNums t.t),.slice va t.s.length vc] 54)) w':=fail_any c _ P _ st 0 (hp1.below hB2) 3 (by decide);have HF2:Hid (Fr w.heap.size P w (w1.alloc (.cells #[.int .i64 t.k,.int .i64 (t.p:Int),.string (strOfNums t.t),.slice va t.s.length vc] 54))):=HF01.out.then (hp1.fr hB2) HF01.out.size
   clear h64 hB2 hp1
   go_wp2_with fail
   refine h2.mono ?_;rintro e w9 ⟨rfl,rfl⟩;clear h2
   go_wp2_with fail
   refine hfl.mono ?_;rintro e w6 ⟨rfl,hp6,hf6⟩;clear hfl;go_wp2
   go_end0
   exact ⟨rfl,below_of_fr HPT.out.1 (HF2.out.then hf6 HF2.out.size),.inl ⟨3,_,_,t::r,st,by decide,HE.out,hp6⟩⟩
 · have h64':decide ((rs.length:Int) ≥ 64)=false:=by
    have:=HPT.out.2.2.2.2;simp;omega
   have hl64:rs.length<64:=by have:=HPT.out.2.2.2.2;omega
   have HL64:Hid (¬rs.length=64):=h64;obtain ⟨kk,hkk,c1,f1,hp1k⟩:=hp1.adv (rule_end HR0.out);have hp2:Pa c (XV NoX c.rv) P ((w1.setCell ⟨P,1,none⟩ (.int .i64 ((kk:Int)+1))).alloc (.cells #[.int .i64 t.k,.int .i64 (t.p:Int),.string (strOfNums t.t),.slice va t.s.length vc] 54)) r st 0:=hp1k.below (below_alloc _ _);have HF2:Hid (Fr w.heap.size P w ((w1.setCell ⟨P,1,none⟩ (.int .i64 ((kk:Int)+1))).alloc (.cells #[.int .i64 t.k,.int .i64 (t.p:Int),.string (strOfNums t.t),.slice va t.s.length vc] 54))):=by
    have hfb:=HF01.out.then (fr_own (n:=w1.heap.size) (P:=P) w1 1 (by decide) (.int .i64 ((kk:Int)+1))) HF01.out.size
    exact hfb.then (hp1k.fr (below_alloc _ _)) hfb.size
   have HTX:Hid (((w1.setCell ⟨P,1,none⟩ (.int .i64 ((kk:Int)+1))).alloc (.cells #[.int .i64 t.k,.int .i64 (t.p:Int),.string (strOfNums t.t),.slice va t.s.length vc] 54)).heap[w1.heap.size]? = some (.cells #[.int .i64 t.k,.int .i64 (t.p:Int),.string (strOfNums t.t),.slice va t.s.length vc] 54 (0,0))/\Im NoX ((w1.setCell ⟨P,1,none⟩ (.int .i64 ((kk:Int)+1))).alloc (.cells #[.int .i64 t.k,.int .i64 (t.p:Int),.string (strOfNums t.t),.slice va t.s.length vc] 54)) P w1.heap.size):=by
    have e1:=heap_new' (w1.setCell ⟨P,1,none⟩ (.int .i64 ((kk:Int)+1))) (.cells #[.int .i64 t.k,.int .i64 (t.p:Int),.string (strOfNums t.t),.slice va t.s.length vc] 54);have e2:(w1.setCell ⟨P,1,none⟩ (.int .i64 ((kk:Int)+1))).heap.size=w1.heap.size:=by simp [World.setCell]
    have e3:=(hp1k.less (X':=NoX) (λk q=>q.elim)).fresh (below_alloc _ (.cells #[.int .i64 t.k,.int .i64 (t.p:Int),.string (strOfNums t.t),.slice va t.s.length vc] 54)) w1.heap.size (by rw [e2];exact Nat.le_refl _) (by simp [World.setCell]);rw [e2] at e1;exact ⟨e1,e3⟩
   have h3:Calls Tryz.prog 50 #[.pointer (some ⟨P,0,none⟩),.int .i64 0] ((w1.setCell ⟨P,1,none⟩ (.int .i64 ((kk:Int)+1))).alloc (.cells #[.int .i64 t.k,.int .i64 (t.p:Int),.string (strOfNums t.t),.slice va t.s.length vc] 54)) λe w'=>RNA c (XV NoX c.rv) P (RAg (regexM c.N 20 r st)) ((w1.setCell ⟨P,1,none⟩ (.int .i64 ((kk:Int)+1))).alloc (.cells #[.int .i64 t.k,.int .i64 (t.p:Int),.string (strOfNums t.t),.slice va t.s.length vc] 54)) e w':=rregex_any 20 c P r st 0 0 rfl _ _ hp2;have HP2:Hid (Pa c (XV NoX c.rv) P ((w1.setCell ⟨P,1,none⟩ (.int .i64 ((kk:Int)+1))).alloc (.cells #[.int .i64 t.k,.int .i64 (t.p:Int),.string (strOfNums t.t),.slice va t.s.length vc] 54)) r st 0):=hp2;clear h64 hp1 hp1k hp2
   go_wp2_with fail
   refine h2.mono ?_;rintro e w9 ⟨rfl,rfl⟩;clear h2
   go_wp2_with fail
   refine h3.mono ?_;rintro e w3 ⟨l,zl,x3,r3,st3,rfl,hz3,hsg3,hp3,hf3,hg3⟩;clear h3 c1 f1 c4 f4;obtain ⟨za,zc,rfl,_⟩:=hz3.slice;unfold ndV;obtain ⟨t3,r3,rfl⟩:=hp3.ends.cons;have hB3:Below w3.heap.size w3 (w3.alloc (.cells #[.int .i64 l.k,.int .i64 l.s,.slice za l.kids.length zc] 39)):=below_alloc _ _;have h4:Calls Tryz.prog 48 #[.pointer (some ⟨P,0,none⟩),.string ⟨#[47]⟩] (w3.alloc (.cells #[.int .i64 l.k,.int .i64 l.s,.slice za l.kids.length zc] 39)) λe w'=>e = .returned (.tuple #[])/\Pa c (XV NoX c.rv) P w' (rtR 47 x3 t3 r3) st3 (rtD 47 x3 t3)/\Fr (w3.alloc (.cells #[.int .i64 l.k,.int .i64 l.s,.slice za l.kids.length zc] 39)).heap.size P (w3.alloc (.cells #[.int .i64 l.k,.int .i64 l.s,.slice za l.kids.length zc] 39)) w':=rtake_any c _ P _ t3 r3 st3 x3 (hp3.below hB3) 47 (by decide);have HF3:Hid (Fr w.heap.size P w (w3.alloc (.cells #[.int .i64 l.k,.int .i64 l.s,.slice za l.kids.length zc] 39))):=by
    have hfa:=HF2.out.then hf3 HF2.out.size
    exact hfa.then (hp3.fr hB3) hfa.size
   have HT3:Hid ((w3.alloc (.cells #[.int .i64 l.k,.int .i64 l.s,.slice za l.kids.length zc] 39)).heap[w1.heap.size]? = some (.cells #[.int .i64 t.k,.int .i64 (t.p:Int),.string (strOfNums t.t),.slice va t.s.length vc] 54 (0,0))/\Im NoX (w3.alloc (.cells #[.int .i64 l.k,.int .i64 l.s,.slice za l.kids.length zc] 39)) P w1.heap.size):=by
    obtain ⟨g1,g2⟩:=hf3.keep _ HTX.out.2.1 HTX.out.2;obtain ⟨g3,g4⟩:=(hp3.fr hB3).keep _ g2.1 g2;exact ⟨g3.trans (g1.trans HTX.out.1),g4⟩
   have HN3:Hid ((w3.alloc (.cells #[.int .i64 l.k,.int .i64 l.s,.slice za l.kids.length zc] 39)).heap[w3.heap.size]? = some (.cells #[.int .i64 l.k,.int .i64 l.s,.slice za l.kids.length zc] 39 (0,0))/\Im NoX (w3.alloc (.cells #[.int .i64 l.k,.int .i64 l.s,.slice za l.kids.length zc] 39)) P w3.heap.size):=⟨heap_new' _ _,hp3.im_new _⟩;have HZ3:Hid (KdX (Im (XV NoX c.rv) (w3.alloc (.cells #[.int .i64 l.k,.int .i64 l.s,.slice za l.kids.length zc] 39)) P) (w3.alloc (.cells #[.int .i64 l.k,.int .i64 l.s,.slice za l.kids.length zc] 39)) (.slice za l.kids.length zc) l.kids):=hz3.to (λk hk=>(hp3.fr hB3).all k hk.2);have hE4:=rag_end hg3 (by decide:(47:Int)≠0);obtain ⟨r4,hr4⟩ :∃r4,r4=rtR 47 x3 t3 r3:=⟨_,rfl⟩;obtain ⟨x4,hx4⟩ :∃x4,x4=rtD 47 x3 t3:=⟨_,rfl⟩;rw [<- hr4,<- hx4] at h4 hE4;have HE4:Hid (REx (endN 47 (regexM c.N 20 r st)) l r4 st3 x4):=hE4;clear hz3 hsg3 hp3 hf3 hg3 hB3 hE4 hr4 hx4 HTX HF2 HP2
   go_wp2_with fail
   refine h4.mono ?_;rintro e w4 ⟨rfl,hp4,hf4⟩;clear h4;have h5:Calls Tryz.prog 50 #[.pointer (some ⟨P,0,none⟩),.int .i64 0] w4 λe w'=>RNA c (XV NoX c.rv) P (RAg (errN x4 r4 (regexM c.N 20 r4 st3))) w4 e w':=rregex_any 20 c P r4 st3 0 x4 rfl _ _ hp4;have HF4:Hid (Fr w.heap.size P w w4):=HF3.out.then hf4 HF3.out.size
   have HT4:Hid (w4.heap[w1.heap.size]? = some (.cells #[.int .i64 t.k,.int .i64 (t.p:Int),.string (strOfNums t.t),.slice va t.s.length vc] 54 (0,0))/\Im NoX w4 P w1.heap.size):=by
    obtain ⟨g1,g2⟩:=hf4.keep _ HT3.out.2.1 HT3.out.2;exact ⟨g1.trans HT3.out.1,g2⟩
   have HN4:Hid (w4.heap[w3.heap.size]? = some (.cells #[.int .i64 l.k,.int .i64 l.s,.slice za l.kids.length zc] 39 (0,0))/\Im NoX w4 P w3.heap.size):=by
    obtain ⟨g1,g2⟩:=hf4.keep _ HN3.out.2.1 HN3.out.2;exact ⟨g1.trans HN3.out.1,g2⟩
   have HZ4:Hid (KdX (Im (XV NoX c.rv) w4 P) w4 (.slice za l.kids.length zc) l.kids):=HZ3.out.to (λk hk=>hf4.all k hk);clear hp4 hf4 HT3 HN3 HZ3 HF3
   go_wp2_with fail
   refine h5.mono ?_;rintro e w5 ⟨n,zr,x5,r5,st5,rfl,hz5,hsg5,hp5,hf5,hg5⟩;clear h5;obtain ⟨ya,yc,rfl,_⟩:=hz5.slice;unfold ndV;obtain ⟨t5,r5,rfl⟩:=hp5.ends.cons;have hB5:Below w5.heap.size w5 (w5.alloc (.cells #[.int .i64 n.k,.int .i64 n.s,.slice ya n.kids.length yc] 39)):=below_alloc _ _;have h6:Calls Tryz.prog 48 #[.pointer (some ⟨P,0,none⟩),.string ⟨#[59]⟩] (w5.alloc (.cells #[.int .i64 n.k,.int .i64 n.s,.slice ya n.kids.length yc] 39)) λe w'=>e = .returned (.tuple #[])/\Pa c (XV NoX c.rv) P w' (rtR 59 x5 t5 r5) st5 (rtD 59 x5 t5)/\Fr (w5.alloc (.cells #[.int .i64 n.k,.int .i64 n.s,.slice ya n.kids.length yc] 39)).heap.size P (w5.alloc (.cells #[.int .i64 n.k,.int .i64 n.s,.slice ya n.kids.length yc] 39)) w':=rtake_any c _ P _ t5 r5 st5 x5 (hp5.below hB5) 59 (by decide);have hf45:=hf5.then (hp5.fr hB5) hf5.size
   have HF5:Hid (Fr w.heap.size P w (w5.alloc (.cells #[.int .i64 n.k,.int .i64 n.s,.slice ya n.kids.length yc] 39))):=HF4.out.then hf45 HF4.out.size
   have HT5:Hid ((w5.alloc (.cells #[.int .i64 n.k,.int .i64 n.s,.slice ya n.kids.length yc] 39)).heap[w1.heap.size]? = some (.cells #[.int .i64 t.k,.int .i64 (t.p:Int),.string (strOfNums t.t),.slice va t.s.length vc] 54 (0,0))/\Im NoX (w5.alloc (.cells #[.int .i64 n.k,.int .i64 n.s,.slice ya n.kids.length yc] 39)) P w1.heap.size):=by
    obtain ⟨g1,g2⟩:=hf45.keep _ HT4.out.2.1 HT4.out.2;exact ⟨g1.trans HT4.out.1,g2⟩
   have HN5:Hid ((w5.alloc (.cells #[.int .i64 n.k,.int .i64 n.s,.slice ya n.kids.length yc] 39)).heap[w3.heap.size]? = some (.cells #[.int .i64 l.k,.int .i64 l.s,.slice za l.kids.length zc] 39 (0,0))/\Im NoX (w5.alloc (.cells #[.int .i64 n.k,.int .i64 n.s,.slice ya n.kids.length yc] 39)) P w3.heap.size):=by
    obtain ⟨g1,g2⟩:=hf45.keep _ HN4.out.2.1 HN4.out.2;exact ⟨g1.trans HN4.out.1,g2⟩
   have HM5:Hid ((w5.alloc (.cells #[.int .i64 n.k,.int .i64 n.s,.slice ya n.kids.length yc] 39)).heap[w5.heap.size]? = some (.cells #[.int .i64 n.k,.int .i64 n.s,.slice ya n.kids.length yc] 39 (0,0))/\Im NoX (w5.alloc (.cells #[.int .i64 n.k,.int .i64 n.s,.slice ya n.kids.length yc] 39)) P w5.heap.size):=⟨heap_new' _ _,hp5.im_new _⟩;have HZ5:Hid (KdX (Im (XV NoX c.rv) (w5.alloc (.cells #[.int .i64 n.k,.int .i64 n.s,.slice ya n.kids.length yc] 39)) P) (w5.alloc (.cells #[.int .i64 n.k,.int .i64 n.s,.slice ya n.kids.length yc] 39)) (.slice za l.kids.length zc) l.kids):=HZ4.out.to (λk hk=>hf45.all k hk);have HY5:Hid (KdX (Im (XV NoX c.rv) (w5.alloc (.cells #[.int .i64 n.k,.int .i64 n.s,.slice ya n.kids.length yc] 39)) P) (w5.alloc (.cells #[.int .i64 n.k,.int .i64 n.s,.slice ya n.kids.length yc] 39)) (.slice ya n.kids.length yc) n.kids):=hz5.to (λk hk=>(hp5.fr hB5).all k hk.2);have hE6:=rag_end hg5 (by decide:(59:Int)≠0);obtain ⟨r6,hr6⟩ :∃r6,r6=rtR 59 x5 t5 r5:=⟨_,rfl⟩;obtain ⟨x6,hx6⟩ :∃x6,x6=rtD 59 x5 t5:=⟨_,rfl⟩;rw [<- hr6,<- hx6] at h6 hE6;have HXQ:Hid ((x6≠0/\q = .inl (r6,((x6:Nat):Int)))\/(x6=0/\q = .inr (c.N,(rs++[((⟨bb,l,n⟩:Rl),Value.slice za l.kids.length zc,Value.slice ya n.kids.length yc)]).map Prod.fst,r6,st5))):=by
    have h7:=HQ.out;unfold senM at h7;rw [if_neg (by simp [hdT,HW0.out]),if_neg (by simp [hdT,HR0.out]),if_neg (by simpa using HL64.out)] at h7;rcases HE4.out with ⟨e1,e2⟩ | ⟨e1,e2⟩
    · have h8:ruleM c.N (t::r) st = .inl (r4,((x4:Nat):Int)):=ruleM_bad e2;have h9:errN x4 r4 (regexM c.N 20 r4 st3) = .inl (r4,((x4:Nat):Int)):=by unfold errN;rw [if_neg e1]
      rw [h9] at hE6;rw [h8] at h7;rcases hE6 with ⟨d1,d2⟩ | ⟨d1,d2⟩
      · have d3:r4=r6/\((x4:Nat):Int)=((x6:Nat):Int):=by simpa [endN] using d2
        exact .inl ⟨d1,by rw [h7,d3.1,d3.2]⟩
      · simp [endN] at d2
    · have h9:errN x4 r4 (regexM c.N 20 r4 st3)=regexM c.N 20 r4 st3:=by unfold errN;rw [if_pos e1]
      rw [h9] at hE6;rcases hE6 with ⟨d1,d2⟩ | ⟨d1,d2⟩
      · have h8:ruleM c.N (t::r) st = .inl (r6,((x6:Nat):Int)):=ruleM_bad2 e2 d2;rw [h8] at h7;exact .inl ⟨d1,h7⟩
      · have h8:=ruleM_good (ts:=t::r) e2 d2;rw [h8] at h7;refine .inr ⟨d1,?_⟩;rw [h7,HBB.out];simp [hdT]
   clear hz5 hsg5 hp5 hf5 hg5 hB5 hE6 hr6 hx6 hf45 HT4 HN4 HZ4 HF4 HE4
   go_wp2_with fail
   refine h6.mono ?_;rintro e w6 ⟨rfl,hp6,hf6⟩;clear h6;obtain ⟨p1,p2,p3,p4,p5⟩:=HPT.out;have hF06:=HF5.out.then hf6 HF5.out.size
   obtain ⟨gT1,gT2⟩:=hf6.keep _ HT5.out.2.1 HT5.out.2;have hT6:=gT1.trans HT5.out.1;obtain ⟨gN1,gN2⟩:=hf6.keep _ HN5.out.2.1 HN5.out.2;have hN6:=gN1.trans HN5.out.1;obtain ⟨gM1,gM2⟩:=hf6.keep _ HM5.out.2.1 HM5.out.2;have hM6:=gM1.trans HM5.out.1;have k2:w6.cell? ⟨w1.heap.size,2,none⟩=some (.string (strOfNums t.t)):=cell_of_row _ _ 2 _ _ _ hT6;have kl:w1.heap.size<w6.heap.size:=gT2.1;have n0:w6.cell? ⟨w3.heap.size,0,none⟩=some (.int .i64 l.k):=cell_of_row _ _ 0 _ _ _ hN6;have n1:w6.cell? ⟨w3.heap.size,1,none⟩=some (.int .i64 l.s):=cell_of_row _ _ 1 _ _ _ hN6;have n2:w6.cell? ⟨w3.heap.size,2,none⟩=some (.slice za l.kids.length zc):=cell_of_row _ _ 2 _ _ _ hN6;have nl:w3.heap.size<w6.heap.size:=gN2.1;have m0:w6.cell? ⟨w5.heap.size,0,none⟩=some (.int .i64 n.k):=cell_of_row _ _ 0 _ _ _ hM6;have m1:w6.cell? ⟨w5.heap.size,1,none⟩=some (.int .i64 n.s):=cell_of_row _ _ 1 _ _ _ hM6;have m2:w6.cell? ⟨w5.heap.size,2,none⟩=some (.slice ya n.kids.length yc):=cell_of_row _ _ 2 _ _ _ hM6;have ml:w5.heap.size<w6.heap.size:=gM2.1;have hB7:Below w6.heap.size w6 (w6.alloc (.cells #[.bool bb,.int .i64 l.k,.int .i64 l.s,.slice za l.kids.length zc,.int .i64 n.k,.int .i64 n.s,.slice ya n.kids.length yc] 41)):=below_alloc _ _;have hp7:=hp6.below hB7;have hfr7:=hp6.fr hB7;have hF07:=hF06.then hfr7 hF06.size
   have HOW7:Hid ((w6.alloc (.cells #[.bool bb,.int .i64 l.k,.int .i64 l.s,.slice za l.kids.length zc,.int .i64 n.k,.int .i64 n.s,.slice ya n.kids.length yc] 41)).drew.ownsRow c.base 41 7 (.slice ra rs.length rc) rs.length (cellsRls rs)):=by
    have h5:=own_block p2 (w':=(w6.alloc (.cells #[.bool bb,.int .i64 l.k,.int .i64 l.s,.slice za l.kids.length zc,.int .i64 n.k,.int .i64 n.s,.slice ya n.kids.length yc] 41))) (λk hk=>(hF07.keep k (p3 k hk).1 (p3 k hk)).1);rw [HRV.out] at h5;exact h5.drew
   have HVI7:Hid (∀k,(Value.slice ra rs.length rc).ownBlock=some k->Im NoX (w6.alloc (.cells #[.bool bb,.int .i64 l.k,.int .i64 l.s,.slice za l.kids.length zc,.int .i64 n.k,.int .i64 n.s,.slice ya n.kids.length yc] 41)) P k):=λk hk=>by
    have hk2:c.rv.ownBlock=some k:=by rw [HRV.out];exact hk
    exact (hF07.keep k (p3 k hk2).1 (p3 k hk2)).2
   have hxv:XV NoX c.rv=XV NoX (.slice ra rs.length rc):=by rw [HRV.out]
   have hzz:=HZ5.out;have hyy:=HY5.out;rw [hxv] at hp7 p4 hzz hyy;have HP7:Hid (Pa c (XV NoX (.slice ra rs.length rc)) P (w6.alloc (.cells #[.bool bb,.int .i64 l.k,.int .i64 l.s,.slice za l.kids.length zc,.int .i64 n.k,.int .i64 n.s,.slice ya n.kids.length yc] 41)) r6 st5 x6):=hp7;have HN7:Hid ((w6.alloc (.cells #[.bool bb,.int .i64 l.k,.int .i64 l.s,.slice za l.kids.length zc,.int .i64 n.k,.int .i64 n.s,.slice ya n.kids.length yc] 41)).drew.heap[w6.heap.size]? = some (.cells #[.bool bb,.int .i64 l.k,.int .i64 l.s,.slice za l.kids.length zc,.int .i64 n.k,.int .i64 n.s,.slice ya n.kids.length yc] 41 (0,0))):=heap_new' _ _;obtain ⟨hmq,es,ck,hmap⟩:=p1.mapOf;have hmap7:=(hF07.keep c.mb hmq.1 hmq.no).1.trans hmap;have hf67:=hf6.then hfr7 hf6.size
   have HX7:Hid (RlX (λk=>Im (XV NoX (.slice ra rs.length rc)) (w6.alloc (.cells #[.bool bb,.int .i64 l.k,.int .i64 l.s,.slice za l.kids.length zc,.int .i64 n.k,.int .i64 n.s,.slice ya n.kids.length yc] 41)) P k/\k≠c.mb) (w6.alloc (.cells #[.bool bb,.int .i64 l.k,.int .i64 l.s,.slice za l.kids.length zc,.int .i64 n.k,.int .i64 n.s,.slice ya n.kids.length yc] 41)) (rs++[((⟨bb,l,n⟩:Rl),Value.slice za l.kids.length zc,Value.slice ya n.kids.length yc)])):=λy hy=>by
    rcases List.mem_append.1 hy with hy | hy
    · exact (p4.to (w':=(w6.alloc (.cells #[.bool bb,.int .i64 l.k,.int .i64 l.s,.slice za l.kids.length zc,.int .i64 n.k,.int .i64 n.s,.slice ya n.kids.length yc] 41))) (Q':=λk=>Im (XV NoX (.slice ra rs.length rc)) (w6.alloc (.cells #[.bool bb,.int .i64 l.k,.int .i64 l.s,.slice za l.kids.length zc,.int .i64 n.k,.int .i64 n.s,.slice ya n.kids.length yc] 41)) P k/\k≠c.mb) (λk hk=>⟨(hF07.all k hk.1).1,(hF07.all k hk.1).2,hk.2⟩)) y hy
    · obtain rfl:y=((⟨bb,l,n⟩:Rl),Value.slice za l.kids.length zc,Value.slice ya n.kids.length yc):=by simpa using hy
      exact ⟨(hzz.to (λk hk=>hf67.all k hk)).off hmap7,(hyy.to (λk hk=>hf67.all k hk)).off hmap7⟩
   have HF7:Hid (Fr w.heap.size P w (w6.alloc (.cells #[.bool bb,.int .i64 l.k,.int .i64 l.s,.slice za l.kids.length zc,.int .i64 n.k,.int .i64 n.s,.slice ya n.kids.length yc] 41))):=hF07;have HSZ7:Hid ((w6.alloc (.cells #[.bool bb,.int .i64 l.k,.int .i64 l.s,.slice za l.kids.length zc,.int .i64 n.k,.int .i64 n.s,.slice ya n.kids.length yc] 41)).heap.size=w6.heap.size+1):=by show _=_;simp
   have hbs:c.base<=w6.heap.size:=by have:=hp6.lt;omega
   have hPl6:=hp6.lt;obtain ⟨c46,f46,_⟩:=hp6.rv;rw [HRV.out] at c46;obtain ⟨c47,f47,_⟩:=hp7.rv;rw [HRV.out] at c47;have HC7:Hid ((w6.alloc (.cells #[.bool bb,.int .i64 l.k,.int .i64 l.s,.slice za l.kids.length zc,.int .i64 n.k,.int .i64 n.s,.slice ya n.kids.length yc] 41)).drew.cell? ⟨P,4,none⟩=some (.slice ra rs.length rc)):=c47;have HFZ7:Hid ((w6.alloc (.cells #[.bool bb,.int .i64 l.k,.int .i64 l.s,.slice za l.kids.length zc,.int .i64 n.k,.int .i64 n.s,.slice ya n.kids.length yc] 41)).drew.frozen? ⟨P,4,none⟩=false):=f47;have HNP:Hid (some P≠(Value.slice ra rs.length rc).ownBlock):=λq=>(HVI7.out P q.symm).2.1 rfl;have HPl7:Hid (P<(w6.alloc (.cells #[.bool bb,.int .i64 l.k,.int .i64 l.s,.slice za l.kids.length zc,.int .i64 n.k,.int .i64 n.s,.slice ya n.kids.length yc] 41)).drew.heap.size):=hp7.lt;have FINR:Hid (∀(g cap2:Nat) (wz:World),wz.ownsRow c.base 41 7 (.slice (some ⟨g,0,none⟩) (rs.length+1) cap2) (rs.length+1) (cellsRls rs++[.bool bb,.int .i64 l.k,.int .i64 l.s,.slice za l.kids.length zc,.int .i64 n.k,.int .i64 n.s,.slice ya n.kids.length yc])->(w6.alloc (.cells #[.bool bb,.int .i64 l.k,.int .i64 l.s,.slice za l.kids.length zc,.int .i64 n.k,.int .i64 n.s,.slice ya n.kids.length yc] 41)).drew.grownBy wz (Value.slice ra rs.length rc).ownBlock->((Value.slice ra rs.length rc).ownBlock=some g\/g=(w6.alloc (.cells #[.bool bb,.int .i64 l.k,.int .i64 l.s,.slice za l.kids.length zc,.int .i64 n.k,.int .i64 n.s,.slice ya n.kids.length yc] 41)).drew.heap.size)->g<wz.heap.size->REnA c P E q w (.returned (.tuple #[])) (wz.setCell ⟨P,4,none⟩ (.slice (some ⟨g,0,none⟩) (rs.length+1) cap2))):=λg cap2 wz hown5 hgrow5 hat5 hlt5=>by
    have hg5:(w6.alloc (.cells #[.bool bb,.int .i64 l.k,.int .i64 l.s,.slice za l.kids.length zc,.int .i64 n.k,.int .i64 n.s,.slice ya n.kids.length yc] 41)).grownBy wz (Value.slice ra rs.length rc).ownBlock:=⟨hgrow5.os,hgrow5.tape,hgrow5.output,hgrow5.size,hgrow5.block⟩;have hn6:∀k,(Value.slice (some ⟨g,0,none⟩) (rs.length+1) cap2).ownBlock=some k->(Value.slice ra rs.length rc).ownBlock=some k\/(w6.alloc (.cells #[.bool bb,.int .i64 l.k,.int .i64 l.s,.slice za l.kids.length zc,.int .i64 n.k,.int .i64 n.s,.slice ya n.kids.length yc] 41)).heap.size<=k:=λk hk=>by
     obtain rfl:g=k:=by simpa [Value.ownBlock] using hk
     rcases hat5 with q | q
     · exact .inl q
     · exact .inr (by rw [q];exact Nat.le_refl _)
    have hp8:=HP7.out.regrow (v':=(.slice (some ⟨g,0,none⟩) (rs.length+1) cap2)) (λk hk=>HVI7.out k hk) hg5 hn6 (λk hk=>(show g=k by simpa [Value.ownBlock] using hk) ▸ hlt5);obtain ⟨rg1,rg2,rg3⟩:=regrow (X:=NoX) (v':=(.slice (some ⟨g,0,none⟩) (rs.length+1) cap2)) (λk hk=>HVI7.out k hk) HP7.out.lt hg5 hn6;have hI6:=regrow_im (X:=NoX) (g:=g) (HP7.out.less (λk q=>q.elim)) (λk hk=>HVI7.out k hk) hg5 hat5 hlt5;have hgP:g≠P:=hI6.2.1;have hp9:=hp8.setrv (.slice (some ⟨g,0,none⟩) (rs.length+1) cap2);have hf9:Fr wz.heap.size P wz (wz.setCell ⟨P,4,none⟩ (.slice (some ⟨g,0,none⟩) (rs.length+1) cap2)):=fr_own wz 4 (by decide) _;have hB9:Below c.base w (wz.setCell ⟨P,4,none⟩ (.slice (some ⟨g,0,none⟩) (rs.length+1) cap2)):=by
     have h1:=below_of_fr HPT.out.1 HF7.out;refine h1.trans ⟨hg5.os,hg5.tape,hg5.output,by have:=hg5.size;simpa [World.setCell] using this,λk hk => ?_⟩;have hlt4:k<(w6.alloc (.cells #[.bool bb,.int .i64 l.k,.int .i64 l.s,.slice za l.kids.length zc,.int .i64 n.k,.int .i64 n.s,.slice ya n.kids.length yc] 41)).heap.size:=by rw [HSZ7.out];omega
     have hne:some k≠(Value.slice ra rs.length rc).ownBlock:=λq=>by
      have:=(HOW7.out.lt k q.symm).1;omega
     exact (Below.heap_setCell wz ⟨P,4,none⟩ _ k (by simp;omega)).trans (hg5.block k hlt4 hne)
    refine ⟨rfl,hB9,?_⟩;rcases HXQ.out with ⟨e1,e2⟩ | ⟨e1,e2⟩
    · exact .inl ⟨x6,_,_,r6,st5,e1,e2,hp9⟩
    · rw [e1] at hp9;refine .inr ⟨(.slice (some ⟨g,0,none⟩) (rs.length+1) cap2),c.N,rs++[((⟨bb,l,n⟩:Rl),Value.slice za l.kids.length zc,Value.slice ya n.kids.length yc)],r6,st5,e2,⟨hp9,?_,λk hk => ?_,?_,by simp;omega⟩,HGN.out⟩
      · have h8:wz.ownsRow c.base 41 7 (.slice (some ⟨g,0,none⟩) (rs.length+1) cap2) (rs++[((⟨bb,l,n⟩:Rl),Value.slice za l.kids.length zc,Value.slice ya n.kids.length yc)]).length (cellsRls (rs++[((⟨bb,l,n⟩:Rl),Value.slice za l.kids.length zc,Value.slice ya n.kids.length yc)])):=by
         rw [cellsRls_snoc,List.length_append];exact hown5
        exact own_block h8 (λk hk=>Below.heap_setCell wz ⟨P,4,none⟩ _ k (λq=>hgP ((show g=k by
         have hk2:(Value.slice (some ⟨g,0,none⟩) (rs.length+1) cap2).ownBlock=some k:=hk;simpa [Value.ownBlock] using hk2).trans q)))
      · obtain rfl:g=k:=by
         have hk2:(Value.slice (some ⟨g,0,none⟩) (rs.length+1) cap2).ownBlock=some k:=hk;simpa [Value.ownBlock] using hk2
        exact (hf9.keep g hI6.1 hI6).2
      · exact HX7.out.to (λk hk=>by
         obtain ⟨a1,a2⟩:=rg1 k hk.1;obtain ⟨a3,a4⟩:=hf9.all k a2;exact ⟨a3.trans a1,a4,hk.2⟩)
   clear hp6 hf6 hp7 hfr7 hF06 hF07 hf67 gT1 gT2 hT6 gN1 gN2 hN6 gM1 gM2 hM6 hB7 hxv hzz hyy hmq hmap hmap7 p1 p2 p3 p4 p5 c47 f47 HT5 HN5 HM5 HZ5 HY5 HF5 HPT1 HF01;clear HX7 HP7 HVI7 HF7 HXQ HPT HQ HGN HR0 HW0 HBB HBY HL64;go_wp2
   go_region_law (refine step_append_lies _ (by rfl) (.tmp 108) (.tmp 115) 25 (by rfl) c.base 41 i0 (.agg #[.bool false,.int .i64 0,.int .i64 0,.slice none 0 0,.int .i64 0,.int .i64 0,.slice none 0 0]) 7 88 Tryz.underlying25 hi0 hz0 hz1 hz2 rfl (by decide) (.slice ra rs.length rc) rs.length (cellsRls rs) (by rfl) (by exact HOW7.out) ⟨w6.heap.size,0,none⟩ 1 1 [.bool bb,.int .i64 l.k,.int .i64 l.s,.slice za l.kids.length zc,.int .i64 n.k,.int .i64 n.s,.slice ya n.kids.length yc] (by rfl) rfl (by exact World.news_of_block HN7.out) (by simp [Value.oneCell']) (by omega) (by unfold maxLen;omega) (by omega) (by simp [World.drew];omega) _ rfl ?_;intro g cap2 wz hown5 hgrow5 hat5 hlt5;have c45:wz.cell? ⟨P,4,none⟩=some (.slice ra rs.length rc):=hgrow5.cell HC7.out HNP.out;have f45:wz.frozen? ⟨P,4,none⟩=false:=(World.frozen?_of_block (a:=⟨P,4,none⟩) (hgrow5.block P HPl7.out HNP.out)).trans HFZ7.out)
   all_goals
    have HFN:Hid (REnA c P E q w (.returned (.tuple #[])) (wz.setCell ⟨P,4,none⟩ (.slice (some ⟨g,0,none⟩) (rs.length+1) cap2))):=FINR.out g cap2 wz hown5 hgrow5 hat5 hlt5;clear hown5 hgrow5 hat5 hlt5;go_wp2
    go_end0
    exact HFN.out
theorem rentry_any (c:Pc) (P:Nat) (w:World) (rs:List RlV) (t:Tok) (r:List Tok) (st:Sts) (E:List Int) (hE:E.length<=10000) (hgt:GT E (t::r)) (hgn:GN E c.N) (hpt:PT c P w rs (t::r) st) (hbm:c.base<=c.mb) :
 Calls Tryz.prog 23 #[.pointer (some ⟨P,0,none⟩)] w λe w'=>REnA c P E (senM c.N (rs.map Prod.fst) (t::r) st) w e w':=by
 cases hw:tkWord wSet t with
 | true =>
  refine (rname_any c _ P w t r st E hE (λy hy=>hgt y (by simp [hy])) hgn hpt.1 hw).mono ?_;rintro e w' ⟨x,r2,N,rfl,hp2,hf2,hgn2,hx⟩;have hq:senM c.N (rs.map Prod.fst) (t::r) st=match nameM c.N r with
   | .inl e => .inl e
   | .inr (N',r') => .inr (N',rs.map Prod.fst,r',st):=by
   unfold senM;rw [if_pos (show tkWord wSet (hdT (t::r))=true from hw)];rfl
  obtain ⟨p1,p2,p3,p4,p5⟩:=hpt;refine ⟨rfl,below_of_frM p1 hbm hf2,?_⟩;rcases hx with ⟨e1,e2⟩ | ⟨e1,e2⟩
  · rw [e2] at hq;exact .inl ⟨x,_,_,r2,st,e1,hq,hp2⟩
  · rw [e2] at hq;rw [e1] at hp2;obtain ⟨hmq,es,ck,hmap⟩:=p1.mapOf;have hne:=row_ne_map p2 hmap;refine .inr ⟨c.rv,N,rs,r2,st,hq,⟨hp2,own_block p2 (λk hk=>(hf2.keep k (p3 k hk).1 (p3 k hk)).1 (hne k hk)),λk hk=>(hf2.keep k (p3 k hk).1 (p3 k hk)).2,p4.to (λk hk => ?_),p5⟩,hgn2⟩;obtain ⟨a1,a2⟩:=hf2.keep k hk.1.1 hk.1.no;exact ⟨a1 hk.2,a2.with hk.1.2.2.2,hk.2⟩
 | false =>
  cases hr:tkRule t with
  | true=>exact rrule_any c P w rs t r st E hgn hpt hr hw
  | false =>
   have hb:(t.k==1&&keptB t.t)=false:=by
    by_cases hk:t.k=1
    · simp [tkRule,tkWord,hk] at hw hr;simp [keptB,hk,hw,hr]
    · simp [hk]
   refine (rentry_bad c _ P w t r st hpt.1 hb).mono ?_;rintro e w' ⟨rfl,hp,hf⟩;refine ⟨rfl,below_of_fr hpt.1 hf,.inl ⟨6,_,_,t::r,st,by decide,?_,hp⟩⟩;unfold senM;rw [if_neg (by simp [hdT,hw]),if_pos (show tkRule (hdT (t::r))=false from hr)];rfl
end Go.Proofs.YtfdjchnckjgapaaGreatDoor
namespace Go.Proofs.YtfdjchnckjgapaaGreatDoor.S1
open Go.RowKit
set_option linter.unusedVariables false
end Go.Proofs.YtfdjchnckjgapaaGreatDoor.S1
