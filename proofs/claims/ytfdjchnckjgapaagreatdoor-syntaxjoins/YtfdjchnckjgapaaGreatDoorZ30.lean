/-
  REntP
-/
import Derived.Test.YtfdjchnckjgapaaGreatDoorZ29
import Derived.Test.YtfdjchnckjgapaaGreatDoorZ22
namespace Go.Proofs.YtfdjchnckjgapaaGreatDoor
set_option maxHeartbeats 16000000
set_option maxRecDepth 100000
open Go.RowKit Go.Shelf S1
set_option linter.unusedVariables false
def RNmA (c:Pc) (X:Nat->Prop) (P:Nat) (E:List Int) (st:Sts) (q:(List Tok×Int) ⊕ (Nms×List Tok)) (w:World) (e:Ending) (w':World):Prop :=
 ∃x r N,e = .returned (.tuple #[])/\Pa (c.nm N) X P w' r st x/\FrM w.heap.size P c.mb w w'/\GN E N/\((x≠0/\q = .inl (r,((x:Nat):Int)))\/(x=0/\q = .inr (N,r)))
theorem GN.give {E:List Int} {N:Nms} {x:List Int} {s:List Rg} (h:GN E N) (hs:GS E s):GN E (giveN N x s):=λy s' hy=>by
 unfold giveN at hy
 split at hy
 · cases hy;exact hs
 · exact h y s' hy
theorem look_some {Q:Nat->Prop} {w:World} {mb m:Nat} {N:Nms} (h:NmS Q w mb m N) (x:List Int) (hb:Byt x) (hl:x.length<=70000) :
 ∃v b,(Instr.lookup 49 (.map (some mb)) (.string (strOfNums x)) true).run Tryz.prog w = .ok (.tuple #[v,.bool b]) w/\((b=false/\N x=none)\/(b=true/\∃s,N x=some s)):=by
 rcases h.look x hb hl with ⟨hN,v,hrun⟩ | ⟨s,v,hN,_,_,hrun⟩
 · exact ⟨v,false,hrun,.inl ⟨rfl,hN⟩⟩
 · exact ⟨v,true,hrun,.inr ⟨rfl,s,hN⟩⟩
theorem rname_any (c:Pc) (X:Nat->Prop) (P:Nat) (w:World) (t0:Tok) (r0:List Tok) (st:Sts) (E:List Int) (hE:E.length<=10000) (hgt:GT E r0) (hgn:GN E c.N) (hpa:Pa c X P w (t0::r0) st 0) (hw:tkWord wSet t0=true) :
 Calls Tryz.prog 23 #[.pointer (some ⟨P,0,none⟩)] w λe w'=>RNmA c X P E st (nameM c.N r0) w e w':=by
 have hPl:=hpa.lt;have h1:=now_any c X P w t0 r0 st 0 hpa;obtain ⟨_,_,_,_,_,_,_,_,_,_,_,_,_,_,_,hby0,_,_⟩:=hpa.next;obtain ⟨k0,n0,D,hn0,hD,hk0n,hN,hqm⟩ :∃k0 n0 D,n0<=k0/\w.ownsMap Tryz.prog 9 heldR c.mb n0 D/\k0+(t0::r0).length=c.n/\(∀x,Byt x->x.length<=70000->(c.N x=none->Maps.has D (keyL x)=false)/\∀s,c.N x=some s->Maps.has D (keyL x)=true/\IsSet s/\∃v,(∀z,D.atKey (keyL x) z = .held v)/\RngS (Im X w P) w v s)/\Im X w P c.mb:=by
  obtain ⟨k,sv,a1,a2,a3⟩:=hpa;obtain ⟨e1,_,_,_,_,_,_,_,⟨b0,n,D,b1,b2,b3⟩,_⟩:=a2;exact ⟨k,n,D,b1,b2,e1,b3,b0⟩
 have HMAP:Hid (n0<=k0/\w.ownsMap Tryz.prog 9 heldR c.mb n0 D/\k0+(t0::r0).length=c.n/\(∀x,Byt x->x.length<=70000->(c.N x=none->Maps.has D (keyL x)=false)/\∀s,c.N x=some s->Maps.has D (keyL x)=true/\IsSet s/\∃v,(∀z,D.atKey (keyL x) z = .held v)/\RngS (Im X w P) w v s)/\Im X w P c.mb):=⟨hn0,hD,hk0n,hN,hqm⟩;have hn70:n0<=70000:=by
  obtain ⟨k,sv,a1,a2,a3⟩:=hpa;obtain ⟨e1,e2,_⟩:=a2;omega
 obtain ⟨q,hq⟩ :∃q,q=nameM c.N r0:=⟨_,rfl⟩;rw [<- hq];have HQ:Hid (q=nameM c.N r0):=hq;have HPA:Hid (Pa c X P w (t0::r0) st 0):=hpa;have HGT:Hid (GT E r0):=hgt;have HGN:Hid (GN E c.N):=hgn;obtain ⟨hk1,ht0⟩:=word_k hw;have sset0:((strOfNums t0.t).toList==([115,101,116]:List UInt8))=decide (t0.t=wSet):=strB_eq hby0 wSet byt_set rfl;have sset:((strOfNums t0.t).toList==([115,101,116]:List UInt8))=true:=by rw [sset0];simp [ht0]
 clear sset0;have hkt:keptB t0.t=true:=by rw [ht0];rfl
 have hk1':(t0.k != 1)=false:=by simp [hk1]
 have HW:Hid (tkWord wSet t0=true):=hw;have HBY0:Hid (Byt t0.t):=hby0;clear hq hpa hn0 hD hk0n hN hqm hw hk1 ht0 hgt hgn hby0;go_enter Tryz.func23,Tryz.ntmps23
 go_wp2_with fail
 refine h1.mono ?_;rintro e w1 ⟨v,rfl,hr,hB1⟩;obtain ⟨va,vc,rfl⟩:=hr.slice;unfold tokV;have h2:=kept_any t0.t HBY0.out (w1.alloc (.cells #[.int .i64 t0.k,.int .i64 (t0.p:Int),.string (strOfNums t0.t),.slice va t0.s.length vc] 54));rw [hkt] at h2;have hp1:=HPA.out.below hB1;have hPl1:=hp1.lt;obtain ⟨kk,hkk,c1,f1,hp1k⟩:=hp1.adv (word_end HW.out);have hp2:Pa c X P ((w1.setCell ⟨P,1,none⟩ (.int .i64 ((kk:Int)+1))).alloc (.cells #[.int .i64 t0.k,.int .i64 (t0.p:Int),.string (strOfNums t0.t),.slice va t0.s.length vc] 54)) r0 st 0:=hp1k.below (below_alloc _ _);have HF2:Hid (Fr w.heap.size P w ((w1.setCell ⟨P,1,none⟩ (.int .i64 ((kk:Int)+1))).alloc (.cells #[.int .i64 t0.k,.int .i64 (t0.p:Int),.string (strOfNums t0.t),.slice va t0.s.length vc] 54))):=by
  have hfa:=HPA.out.fr hB1;have hfb:=hfa.then (fr_own (n:=w1.heap.size) (P:=P) w1 1 (by decide) (.int .i64 ((kk:Int)+1))) hfa.size
  exact hfb.then (hp1k.fr (below_alloc _ _)) hfb.size
 obtain ⟨t,r,rfl⟩:=hp2.ends.cons;have h3:=now_any c X P _ t r st 0 hp2;obtain ⟨_,_,_,_,_,_,_,_,_,_,_,_,_,_,_,hby,hln,_⟩:=hp2.next;have HBY:Hid (Byt t.t/\t.t.length<=70000):=⟨hby,hln⟩;have HP2:Hid (Pa c X P ((w1.setCell ⟨P,1,none⟩ (.int .i64 ((kk:Int)+1))).alloc (.cells #[.int .i64 t0.k,.int .i64 (t0.p:Int),.string (strOfNums t0.t),.slice va t0.s.length vc] 54)) (t::r) st 0):=hp2;clear h1 hr hB1 hp1 hp1k hp2 hkt hby hln
 go_wp2_with fail
 refine h2.mono ?_;rintro e w9 ⟨rfl,rfl⟩;clear h2
 go_wp2_with fail
 refine h3.mono ?_;rintro e w3 ⟨v3,rfl,hr3,hB3⟩;obtain ⟨ta,tc,rfl⟩:=hr3.slice;unfold tokV;clear h3 hr3 c1 f1;have hp3:=HP2.out.below hB3;have HP3:Hid (Pa c X P w3 (t::r) st 0):=hp3;have HF3:Hid (Fr w.heap.size P w w3):=HF2.out.then (HP2.out.fr hB3) HF2.out.size
 have hPl3:=hp3.lt;obtain ⟨hmc3,_⟩:=hp3.names;have hB4:Below w3.heap.size w3 (w3.alloc (.cells #[.int .i64 t.k,.int .i64 (t.p:Int),.string (strOfNums t.t),.slice ta t.s.length tc] 54)):=below_alloc _ _;have hB4d:Below w3.heap.size w3 (w3.alloc (.cells #[.int .i64 t.k,.int .i64 (t.p:Int),.string (strOfNums t.t),.slice ta t.s.length tc] 54)).drew:=(below_alloc _ _).drew;have HP4:Hid (Pa c X P (w3.alloc (.cells #[.int .i64 t.k,.int .i64 (t.p:Int),.string (strOfNums t.t),.slice ta t.s.length tc] 54)).drew (t::r) st 0):=hp3.below hB4d;have HF4:Hid (Fr w.heap.size P w (w3.alloc (.cells #[.int .i64 t.k,.int .i64 (t.p:Int),.string (strOfNums t.t),.slice ta t.s.length tc] 54)).drew):=HF3.out.then (hp3.fr hB4d) HF3.out.size
 obtain ⟨_,hnms⟩:=HP4.out.names;obtain ⟨v4,b4,hrun,hb4⟩:=look_some hnms t.t HBY.out.1 HBY.out.2;have HB4:Hid ((b4=false/\c.N t.t=none)\/(b4=true/\∃s,c.N t.t=some s)):=hb4;have HNK:Hid (tkName t=(t.k==1 && !keptB t.t)):=name_kept;clear hB3 hp3 hB4 hB4d hnms hb4 HP2 HF2 sset;by_cases hk:t.k=1
 · have hk':(t.k != 1)=false:=by simp [hk]
   have h5:=kept_any t.t HBY.out.1 (w3.alloc (.cells #[.int .i64 t.k,.int .i64 (t.p:Int),.string (strOfNums t.t),.slice ta t.s.length tc] 54)).drew;cases hkp:keptB t.t with
   | true =>
    rw [hkp] at h5;have HE:Hid (q = .inl (t::r,6)):=HQ.out.trans (nameM_bad (by show tkName t=false;rw [HNK.out,hkp];simp));have hfl:Calls Tryz.prog 47 #[.pointer (some ⟨P,0,none⟩),.int .i64 6] (w3.alloc (.cells #[.int .i64 t.k,.int .i64 (t.p:Int),.string (strOfNums t.t),.slice ta t.s.length tc] 54)).drew λe w'=>e = .returned (.tuple #[])/\Pa c X P w' (t::r) st 6/\Fr (w3.alloc (.cells #[.int .i64 t.k,.int .i64 (t.p:Int),.string (strOfNums t.t),.slice ta t.s.length tc] 54)).drew.heap.size P (w3.alloc (.cells #[.int .i64 t.k,.int .i64 (t.p:Int),.string (strOfNums t.t),.slice ta t.s.length tc] 54)).drew w':=fail_any c X P _ st 0 HP4.out 6 (by decide);clear hk hkp;go_wp2
    go_region
    go_wp2_with fail
    refine h5.mono ?_;rintro e w9 ⟨rfl,rfl⟩;clear h5
    go_wp2_with fail
    refine hfl.mono ?_;rintro e w6 ⟨rfl,hp6,hf6⟩;clear hfl;go_wp2
    go_end0
    exact ⟨6,t::r,c.N,rfl,hp6,(HF4.out.then hf6 HF4.out.size).frM,HGN.out,.inl ⟨by decide,HE.out⟩⟩
   | false =>
    rw [hkp] at h5;have HNM:Hid (tkName t=true):=by
     show _=_;rw [HNK.out,hkp];simp [hk]
    clear hk hkp HNK;cases b4 with
    | true =>
     have HE:Hid (q = .inl (t::r,5)):=by
      rcases HB4.out with ⟨h,_⟩ | ⟨_,s,hs⟩
      · cases h
      · exact HQ.out.trans (nameM_there HNM.out hs)
     have hfl:Calls Tryz.prog 47 #[.pointer (some ⟨P,0,none⟩),.int .i64 5] (w3.alloc (.cells #[.int .i64 t.k,.int .i64 (t.p:Int),.string (strOfNums t.t),.slice ta t.s.length tc] 54)).drew λe w'=>e = .returned (.tuple #[])/\Pa c X P w' (t::r) st 5/\Fr (w3.alloc (.cells #[.int .i64 t.k,.int .i64 (t.p:Int),.string (strOfNums t.t),.slice ta t.s.length tc] 54)).drew.heap.size P (w3.alloc (.cells #[.int .i64 t.k,.int .i64 (t.p:Int),.string (strOfNums t.t),.slice ta t.s.length tc] 54)).drew w':=fail_any c X P _ st 0 HP4.out 5 (by decide);go_wp2
     go_region
     go_wp2_with fail
     refine h5.mono ?_;rintro e w9 ⟨rfl,rfl⟩;clear h5
     go_wp2_with fail
     refine hfl.mono ?_;rintro e w6 ⟨rfl,hp6,hf6⟩;clear hfl;go_wp2
     go_end0
     exact ⟨5,t::r,c.N,rfl,hp6,(HF4.out.then hf6 HF4.out.size).frM,HGN.out,.inl ⟨by decide,HE.out⟩⟩
    | false =>
     have HNN:Hid (c.N t.t=none):=by
      show _=_;rcases HB4.out with ⟨_,h⟩ | ⟨h,_⟩
      · exact h
      · cases h
     obtain ⟨k3,hk3,c13,f13,hp3k⟩:=HP3.out.adv (name_end HNM.out);have hBx:Below (w3.setCell ⟨P,1,none⟩ (.int .i64 ((k3:Int)+1))).heap.size (w3.setCell ⟨P,1,none⟩ (.int .i64 ((k3:Int)+1))) ((w3.setCell ⟨P,1,none⟩ (.int .i64 ((k3:Int)+1))).alloc (.cells #[.int .i64 t.k,.int .i64 (t.p:Int),.string (strOfNums t.t),.slice ta t.s.length tc] 54)).drew:=(below_alloc _ _).drew;have hp5:Pa c X P ((w3.setCell ⟨P,1,none⟩ (.int .i64 ((k3:Int)+1))).alloc (.cells #[.int .i64 t.k,.int .i64 (t.p:Int),.string (strOfNums t.t),.slice ta t.s.length tc] 54)).drew r st 0:=hp3k.below hBx;have HF5:Hid (Fr w.heap.size P w ((w3.setCell ⟨P,1,none⟩ (.int .i64 ((k3:Int)+1))).alloc (.cells #[.int .i64 t.k,.int .i64 (t.p:Int),.string (strOfNums t.t),.slice ta t.s.length tc] 54)).drew):=by
      have hfb:=HF3.out.then (fr_own (n:=w3.heap.size) (P:=P) w3 1 (by decide) (.int .i64 ((k3:Int)+1))) HF3.out.size
      exact hfb.then (hp3k.fr hBx) hfb.size
     obtain ⟨t5,r5,rfl⟩:=hp5.ends.cons;have h6:Calls Tryz.prog 48 #[.pointer (some ⟨P,0,none⟩),.string ⟨#[61]⟩] ((w3.setCell ⟨P,1,none⟩ (.int .i64 ((k3:Int)+1))).alloc (.cells #[.int .i64 t.k,.int .i64 (t.p:Int),.string (strOfNums t.t),.slice ta t.s.length tc] 54)).drew λe w'=>e = .returned (.tuple #[])/\Pa c X P w' (rtR 61 0 t5 r5) st (rtD 61 0 t5)/\Fr ((w3.setCell ⟨P,1,none⟩ (.int .i64 ((k3:Int)+1))).alloc (.cells #[.int .i64 t.k,.int .i64 (t.p:Int),.string (strOfNums t.t),.slice ta t.s.length tc] 54)).drew.heap.size P ((w3.setCell ⟨P,1,none⟩ (.int .i64 ((k3:Int)+1))).alloc (.cells #[.int .i64 t.k,.int .i64 (t.p:Int),.string (strOfNums t.t),.slice ta t.s.length tc] 54)).drew w':=rtake_any c X P _ t5 r5 st 0 hp5 61 (by decide);have HLL:Hid (k0+(t5::r5).length+2<=c.n/\GT E (t5::r5)):=by
      have h7:=HMAP.out.2.2.1;simp at h7;exact ⟨by simp;omega,λy hy=>HGT.out y (by simp at hy ⊢;exact .inr hy)⟩
     have HTX:Hid (((w3.setCell ⟨P,1,none⟩ (.int .i64 ((k3:Int)+1))).alloc (.cells #[.int .i64 t.k,.int .i64 (t.p:Int),.string (strOfNums t.t),.slice ta t.s.length tc] 54)).drew.heap[w3.heap.size]? = some (.cells #[.int .i64 t.k,.int .i64 (t.p:Int),.string (strOfNums t.t),.slice ta t.s.length tc] 54 (0,0))/\Im NoX ((w3.setCell ⟨P,1,none⟩ (.int .i64 ((k3:Int)+1))).alloc (.cells #[.int .i64 t.k,.int .i64 (t.p:Int),.string (strOfNums t.t),.slice ta t.s.length tc] 54)).drew P w3.heap.size):=by
      have e1:=heap_new' (w3.setCell ⟨P,1,none⟩ (.int .i64 ((k3:Int)+1))) (.cells #[.int .i64 t.k,.int .i64 (t.p:Int),.string (strOfNums t.t),.slice ta t.s.length tc] 54);have e2:(w3.setCell ⟨P,1,none⟩ (.int .i64 ((k3:Int)+1))).heap.size=w3.heap.size:=by simp [World.setCell]
      have e3:=(hp3k.less (X':=NoX) (λk q=>q.elim)).fresh hBx w3.heap.size (by rw [e2];exact Nat.le_refl _) (by simp [World.setCell,World.drew]);rw [e2] at e1;exact ⟨e1,e3⟩
     clear hBx hp3k hp5 HB4 HP4 HF4 HP3 HF3;go_wp2
     go_region
     go_wp2_with fail
     refine h5.mono ?_;rintro e w9 ⟨rfl,rfl⟩;clear h5
     go_wp2_with fail
     refine h6.mono ?_;rintro e w6 ⟨rfl,hp6,hf6⟩;clear h6 hrun c13 f13;have HF6:Hid (Fr w.heap.size P w w6):=HF5.out.then hf6 HF5.out.size
     have HT6:Hid (w6.heap[w3.heap.size]? = some (.cells #[.int .i64 t.k,.int .i64 (t.p:Int),.string (strOfNums t.t),.slice ta t.s.length tc] 54 (0,0))/\Im NoX w6 P w3.heap.size):=by
      obtain ⟨g1,g2⟩:=hf6.keep _ HTX.out.2.1 HTX.out.2;exact ⟨g1.trans HTX.out.1,g2⟩
     have HSUM:Hid (∀(v7:Value) (s7:List Rg) (r7:List Tok) (x7:Nat) (t8:Tok) (r8:List Tok),r7=t8::r8->((tkSign 61 t5=true/\((x7≠0/\sumM c.N 20 r5 = .inl (r7,((x7:Nat):Int)))\/(x7=0/\sumM c.N 20 r5 = .inr (s7,r7))))\/(tkSign 61 t5=false/\x7=6/\r7=t5::r5))->(rtR 59 x7 t8 r8).length<=(t5::r5).length/\((rtD 59 x7 t8≠0/\q = .inl (rtR 59 x7 t8 r8,((rtD 59 x7 t8:Nat):Int)))\/(rtD 59 x7 t8=0/\q = .inr (giveN c.N t.t s7,rtR 59 x7 t8 r8)))):=λv7 s7 r7 x7 t8 r8 hr7 hh=>by
      subst hr7;unfold rtR rtD;rcases hh with ⟨hs,⟨e1,e2⟩ | ⟨e1,e2⟩⟩ | ⟨hs,e1,e2⟩
      · have hL:=sumM_left c.N 20 r5;rw [e2] at hL;have h8:=hL.1;rw [if_neg e1,if_neg e1];refine ⟨by simp at h8 ⊢;omega,.inl ⟨e1,?_⟩⟩;rw [HQ.out,nameM_sum' (show tkName (hdT (t::t5::r5))=true from HNM.out) HNN.out hs];show gvM _ _ (endQ 59 (sumM c.N 20 r5))=_;rw [e2];rfl
      · have hL:=sumM_left c.N 20 r5;rw [e2] at hL;have h8:=hL.1;rw [if_pos e1,if_pos e1];have h9:q=gvM c.N t.t (endQ 59 (.inr (s7,t8::r8))):=by
         rw [HQ.out,nameM_sum' (show tkName (hdT (t::t5::r5))=true from HNM.out) HNN.out hs];show gvM c.N t.t (endQ 59 (sumM c.N 20 r5))=_;rw [e2]
        cases h59:tkSign 59 t8 with
        | true=>exact ⟨by simp at h8 ⊢;omega,.inr ⟨by simp,by rw [h9];simp [endQ,hdT,h59,gvM]⟩⟩
        | false=>exact ⟨by simp at h8 ⊢;omega,.inl ⟨by simp,by rw [h9];simp [endQ,hdT,h59,gvM]⟩⟩
      · have e0:x7≠0:=by omega
        rw [if_neg e0,if_neg e0,e2];refine ⟨Nat.le_refl _,.inl ⟨e0,?_⟩⟩;rw [HQ.out,nameM_sign (show tkName (hdT (t::t5::r5))=true from HNM.out) HNN.out hs,e1];rfl
     have h7:Calls Tryz.prog 49 #[.pointer (some ⟨P,0,none⟩),.int .i64 0] w6 λe w'=>∃v7 s7 r7 x7,e = .returned v7/\GS E s7/\RngS (Im X w' P) w' v7 s7/\Pa c X P w' r7 st x7/\Fr w6.heap.size P w6 w'/\((tkSign 61 t5=true/\((x7≠0/\sumM c.N 20 r5 = .inl (r7,((x7:Nat):Int)))\/(x7=0/\sumM c.N 20 r5 = .inr (s7,r7))))\/(tkSign 61 t5=false/\x7=6/\r7=t5::r5)):=by
      cases hs:tkSign 61 t5 with
      | true =>
       have e1:rtR 61 0 t5 r5=r5:=by simp [rtR,hs]
       have e2:rtD 61 0 t5=0:=by simp [rtD,hs]
       rw [e1,e2] at hp6;refine (rsum_any 20 c X P w6 r5 st 0 E rfl hE (λy hy=>HLL.out.2 y (by simp [hy])) HGN.out hp6).mono ?_;rintro e w7 ⟨v7,s7,r7,x7,rfl,a1,a2,a3,a4,a5⟩;exact ⟨v7,s7,r7,x7,rfl,a1,a2,a3,a4,.inl ⟨rfl,a5⟩⟩
      | false =>
       have e1:rtR 61 0 t5 r5=t5::r5:=by simp [rtR,hs]
       have e2:rtD 61 0 t5=6:=by simp [rtD,hs]
       rw [e1,e2] at hp6;refine (rsum_bad c X P w6 (t5::r5) st 6 0 (by decide) hp6).mono ?_;rintro e w7 ⟨rfl,a3,a4⟩;exact ⟨_,[],t5::r5,6,rfl,GS.nil E,RngS.none,a3,a4,.inr ⟨rfl,rfl,rfl⟩⟩
     clear hp6 hf6 HTX HF5
     go_wp2_with fail
     refine h7.mono ?_;rintro e w7 ⟨v7,s7,r7,x7,rfl,hs7,hr7,hp7,hf7,hx7⟩;clear h7;obtain ⟨a7,c7,rfl⟩:=hr7.slice;obtain ⟨t8,r8,rfl⟩:=hp7.ends.cons;have h8:Calls Tryz.prog 48 #[.pointer (some ⟨P,0,none⟩),.string ⟨#[59]⟩] w7 λe w'=>e = .returned (.tuple #[])/\Pa c X P w' (rtR 59 x7 t8 r8) st (rtD 59 x7 t8)/\Fr w7.heap.size P w7 w':=rtake_any c X P w7 t8 r8 st x7 hp7 59 (by decide);have hfin:=HSUM.out (.slice a7 s7.length c7) s7 _ x7 t8 r8 rfl hx7;obtain ⟨r9,hr9⟩ :∃r9,r9=rtR 59 x7 t8 r8:=⟨_,rfl⟩;obtain ⟨x9,hx9⟩ :∃x9,x9=rtD 59 x7 t8:=⟨_,rfl⟩;rw [<- hr9,<- hx9] at h8 hfin;have HFI:Hid (r9.length<=(t5::r5).length/\((x9≠0/\q = .inl (r9,((x9:Nat):Int)))\/(x9=0/\q = .inr (giveN c.N t.t s7,r9)))):=hfin;have HF7:Hid (Fr w.heap.size P w w7):=HF6.out.then hf7 HF6.out.size
     have HT7:Hid (w7.heap[w3.heap.size]? = some (.cells #[.int .i64 t.k,.int .i64 (t.p:Int),.string (strOfNums t.t),.slice ta t.s.length tc] 54 (0,0))/\Im NoX w7 P w3.heap.size):=by
      obtain ⟨g1,g2⟩:=hf7.keep _ HT6.out.2.1 HT6.out.2;exact ⟨g1.trans HT6.out.1,g2⟩
     have HS7:Hid (GS E s7/\RngS (Im X w7 P) w7 (.slice a7 s7.length c7) s7):=⟨hs7,hr7⟩;clear hx7 hfin hr9 hx9 hf7 hp7 hs7 hr7 HT6 HF6 HSUM
     go_wp2_with fail
     refine h8.mono ?_;rintro e w8 ⟨rfl,hp8,hf8⟩;clear h8;have hF8:=HF7.out.then hf8 HF7.out.size
     obtain ⟨g1,g2⟩:=hf8.keep _ HT7.out.2.1 HT7.out.2;have hT8:=g1.trans HT7.out.1;have k2:w8.cell? ⟨w3.heap.size,2,none⟩=some (.string (strOfNums t.t)):=cell_of_row _ _ 2 _ _ _ hT8;have hkl:w3.heap.size<w8.heap.size:=g2.1;obtain ⟨hmc8,_⟩:=hp8.names;have hPl8:=hp8.lt;have hto:=λj (hj:Im X w P j)=>hF8.im hj.1 hj;have HD8:Hid (w8.ownsMap Tryz.prog 9 heldR c.mb n0 D):=ownsMap_block HMAP.out.2.1 (hto _ HMAP.out.2.2.2.2).1;have HQ8:Hid (Im X w8 P c.mb):=(hto _ HMAP.out.2.2.2.2).2;have HN8:Hid (∀x,Byt x->x.length<=70000->(c.N x=none->Maps.has D (keyL x)=false)/\∀s,c.N x=some s->Maps.has D (keyL x)=true/\IsSet s/\∃v,(∀z,D.atKey (keyL x) z = .held v)/\RngS (Im X w8 P) w8 v s):=λx hx hl=>by
      obtain ⟨n1,n2⟩:=HMAP.out.2.2.2.1 x hx hl;refine ⟨n1,λs hs => ?_⟩;obtain ⟨m1,m2,v,m3,m4⟩:=n2 s hs;exact ⟨m1,m2,v,m3,m4.to hto⟩
     have HK8:Hid (k0+r9.length<c.n):=by
      have a1:=HLL.out.1;have a2:=HFI.out.1;show _<_;omega
     have HP8:Hid (Pa c X P w8 r9 st x9):=hp8;have HR8:Hid (IsSet s7/\RngS (Im X w8 P) w8 (.slice a7 s7.length c7) s7):=⟨HS7.out.1.1,HS7.out.2.fr hf8⟩;have HF8:Hid (Fr w.heap.size P w w8):=hF8;clear hp8 hf8 hF8 g1 g2 hT8 hto HF7 HT7;have hDd:w8.drew.ownsMap Tryz.prog 9 heldR c.mb n0 D:=ownsMap_block HD8.out rfl;obtain ⟨wm,hrunm,hDm,hgm⟩:=hDd.update (Maps.string_keyed Tryz.underlying9) Tryz.underlying49 (by unfold maxLen;omega) (keyOf_name t.t HBY.out.2) (show heldR (.slice a7 s7.length c7)=some (.held (.slice a7 s7.length c7),[]) from rfl);have HFIN:Hid (Pa (c.nm (giveN c.N t.t s7)) X P wm r9 st x9/\FrM w.heap.size P c.mb w wm):=by
      have hg2:w8.grownBy wm (some c.mb):=⟨hgm.os,hgm.tape,hgm.output,hgm.size,hgm.block⟩;exact ⟨HP8.out.named (x:=t.t) HBY.out.1 HR8.out.1 HR8.out.2 HD8.out HMAP.out.1 HK8.out HQ8.out HN8.out hg2 hDm,(HF8.out.frM (mb:=c.mb)).trans (frM_map HP8.out.lt (Ne.symm HQ8.out.2.1) hg2 w.heap.size)⟩
     clear hDm hgm hDd;go_wp2
     go_region
     go_wp2
     go_end0
     exact ⟨x9,r9,_,rfl,HFIN.out.1,HFIN.out.2,HGN.out.give HS7.out.1,HFI.out.2⟩
 · have hk':(t.k != 1)=true:=by simpa using hk
   have HE:Hid (q = .inl (t::r,6)):=HQ.out.trans (nameM_bad (by show tkName t=false;rw [HNK.out];simp [hk]));have hfl:Calls Tryz.prog 47 #[.pointer (some ⟨P,0,none⟩),.int .i64 6] (w3.alloc (.cells #[.int .i64 t.k,.int .i64 (t.p:Int),.string (strOfNums t.t),.slice ta t.s.length tc] 54)).drew λe w'=>e = .returned (.tuple #[])/\Pa c X P w' (t::r) st 6/\Fr (w3.alloc (.cells #[.int .i64 t.k,.int .i64 (t.p:Int),.string (strOfNums t.t),.slice ta t.s.length tc] 54)).drew.heap.size P (w3.alloc (.cells #[.int .i64 t.k,.int .i64 (t.p:Int),.string (strOfNums t.t),.slice ta t.s.length tc] 54)).drew w':=fail_any c X P _ st 0 HP4.out 6 (by decide);clear hk;go_wp2
   go_region
   go_wp2_with fail
   refine hfl.mono ?_;rintro e w6 ⟨rfl,hp6,hf6⟩;clear hfl;go_wp2
   go_end0
   exact ⟨6,t::r,c.N,rfl,hp6,(HF4.out.then hf6 HF4.out.size).frM,HGN.out,.inl ⟨by decide,HE.out⟩⟩
end Go.Proofs.YtfdjchnckjgapaaGreatDoor
