/-
  ParP With Ref
-/
import Derived.Test.YtfdjchnckjgapaaGreatDoorZ22
import Derived.Test.YtfdjchnckjgapaaGreatDoorZ10
import Derived.Test.YtfdjchnckjgapaaGreatDoorZ03
import Derived.Test.YtfdjchnckjgapaaGreatDoorZ11
namespace Go.Proofs.YtfdjchnckjgapaaGreatDoor
set_option maxHeartbeats 16000000
set_option maxRecDepth 100000
open Go.RowKit Go.Shelf S1
set_option linter.unusedVariables false
def PrgAt (base:Nat) (w:World) (sv rv:Value) (rs:List RlV) (st:Sts):Prop :=
 (∃vs,w.ownsRow base 43 1 sv st.length vs/\SetsS (λk=>k<w.heap.size) w vs st)/\w.ownsRow base 41 7 rv rs.length (cellsRls rs)/\RlX (λk=>k<w.heap.size) w rs/\st.length<=60/\rs.length<=64
def NoInt (w:World) (R:Nat):Prop:=∀off k x,w.cell? ⟨R,off,none⟩≠some (.int k x)
theorem RngS.offN {Q:Nat->Prop} {w:World} {v:Value} {l:List Rg} {R:Nat} (hm:NoInt w R) (h:RngS Q w v l):RngS (λk=>Q k/\k≠R) w v l:=by
 obtain ⟨a,cap,e,hc,hn,hi⟩:=h;refine ⟨a,cap,e,hc,hn,λi hlt => ?_⟩;obtain ⟨g,off,rfl,hg,h0,h1⟩:=hi i hlt;exact ⟨g,off,rfl,⟨hg,λq=>hm _ _ _ (q ▸ h0)⟩,h0,h1⟩
theorem SetsS.offN {Q:Nat->Prop} {w:World} {vs:List Value} {st:Sts} {R:Nat} (hm:NoInt w R) (h:SetsS Q w vs st):SetsS (λk=>Q k/\k≠R) w vs st:=⟨h.1,λi hi=>by
 obtain ⟨v,h1,h2,h3⟩:=h.2 i hi;exact ⟨v,h1,h2.offN hm,h3⟩⟩
theorem KidS.offN {Q:Nat->Prop} {w:World} {R:Nat} (hm:NoInt w R):∀ {f:Nat} {z:Value} {l:List Nd},KidS Q w f z l->KidS (λk=>Q k/\k≠R) w f z l
 | 0,z,l,h=>h
 | f+1,z,l,⟨a,cap,e,hc,hi⟩=>⟨a,cap,e,hc,λi h=>by
  obtain ⟨g,off,z',h1,h2,h3,h4,h5,h6⟩:=hi i h;exact ⟨g,off,z',h1,⟨h2,λq=>hm _ _ _ (q ▸ h3)⟩,h3,h4,h5,h6.offN hm⟩⟩
theorem RlX.offN {Q:Nat->Prop} {w:World} {R:Nat} (hm:NoInt w R) {l:List RlV} (h:RlX Q w l):RlX (λk=>Q k/\k≠R) w l:=λx hx=>by
 obtain ⟨⟨f,h1⟩,⟨g,h2⟩⟩:=h x hx;exact ⟨⟨f,h1.offN hm⟩,⟨g,h2.offN hm⟩⟩
def PaA (w:World) (q:(Nat×Int) ⊕ (List Rl×Sts)) (e:Ending) (w':World):Prop:=Below w.heap.size w w' /\
 ((∃a x,q = .inl (a,x)/\x≠0/\e = .returned (.tuple #[.agg #[.slice none 0 0,.slice none 0 0],.int .i64 ((a:Nat):Int),.int .i64 x])) \/
  (∃rs st sv rv,q = .inr (rs.map Prod.fst,st)/\e = .returned (.tuple #[.agg #[sv,rv],.int .i64 0,.int .i64 0])/\PrgAt w.heap.size w' sv rv rs st))
theorem mkS_eq {l s:List Rg} (hf:Fits l) (h:Upto (hasR l) s 1114112):mkS l=s:=by
 have h2:Upto (λx=>hasR l x) (mkS l) 1114112:=pick_spec l [] hf (λx hx=>(by cases hx)) (λx _=>x);exact h2.unique h
theorem toks_ready {w:World} {base:Nat} {l:List (Tok×Value)} {g cp:Nat} {m:Nat} (hm:m<=70000) (hown:w.ownsRow base 54 4 (.slice (some ⟨g,0,none⟩) l.length cp) l.length (cellsTs l)) (hso:SetsOwn w base l) (hok:∀t∈l.map Prod.fst,TkOk m t):TokS (λk=>k<w.heap.size) w g 0 0 ((l.map Prod.fst).map canT):=λi hi=>by
 have hi':i<l.length:=by simpa using hi
 obtain ⟨a,cap,e,_,hx⟩:=toks_of_row hown;obtain ⟨rfl,_,rfl⟩:some ⟨g,0,none⟩=a/\l.length=l.length/\cp=cap:=by simpa using e
 obtain ⟨g',off',e2,h0,h1,h2,h3,h4⟩:=hx i hi';obtain ⟨rfl,rfl⟩:g=g'/\0=off':=by simpa using e2
 obtain ⟨s,s1,s2,s3⟩:=hso l[i] (List.getElem_mem hi');obtain ⟨o1,o2,o3⟩:=hok l[i].1 (List.mem_map_of_mem (List.getElem_mem hi'));have el:((l.map Prod.fst).map canT)[i]=canT l[i].1:=by simp
 rw [el];have es:(canT l[i].1).s=s:=mkS_eq o1 s1;rw [es];rw [show 0+(0+i)*4=0+i*4 by omega];exact ⟨h0,h1,h2,h3,⟨l[i].2,h4,rngS_of_row s3 (λk _ hk=>hk)⟩,s1.isSet,o2,by have:=o3;show l[i].1.t.length<=_;omega⟩
theorem parse_any8 (zs:List Int) (hby:Byt zs) (hz:zs.length<=65536) (us:List U) (hus:Run zs 0 us zs.length) (ta:Option Addr) (cap:Nat) (w:World) (hsv:SynV w) (hI:BytesAt w.heap.size w (.slice ta zs.length cap) zs) :
 Calls Tryz.prog 9 #[.slice ta zs.length cap] w λe w'=>PaA w (parseL (toksL zs.length us)) e w':=by
 have hB0:=below_alloc w (.cells #[.slice none 0 0,.slice none 0 0] 27);have h1:=tokens_any zs hby hz us hus ta cap (w.alloc (.cells #[.slice none 0 0,.slice none 0 0] 27)) (hsv.grown (World.grownBy_alloc w _ none) (by simp)) ((hI.below hB0).mono hB0.size);have HTOK:Hid (∀l,toksL zs.length us=TR.good l->EndsT l/\∀t∈l,TkOk zs.length t):=λl h=>toks_ok hus h;have HB0:Hid (Below w.heap.size w (w.alloc (.cells #[.slice none 0 0,.slice none 0 0] 27))):=hB0;have HE0:Hid ((w.alloc (.cells #[.slice none 0 0,.slice none 0 0] 27)).heap[w.heap.size]? = some (.cells #[.slice none 0 0,.slice none 0 0] 27 (0,0))):=heap_new' _ _;have HSZ0:Hid ((w.alloc (.cells #[.slice none 0 0,.slice none 0 0] 27)).heap.size=w.heap.size+1):=by show _=_;simp
 obtain ⟨tr,htr⟩ :∃tr,tr=toksL zs.length us:=⟨_,rfl⟩;rw [<- htr] at h1 HTOK;rw [<- htr];obtain ⟨q,hq⟩ :∃q,q=parseL tr:=⟨_,rfl⟩;rw [<- hq];have HQ:Hid (q=parseL tr):=hq;have hmm:=@run_makeMap Tryz.prog;clear htr hq hI hsv hus hby hB0;go_enter Tryz.func9,Tryz.ntmps9
 go_wp2_with fail
 refine h1.mono ?_;rintro e w1 (⟨a,x,rfl,rfl,hx,hB1⟩ | ⟨l,v,rfl,hll,rfl,hown,hso,hB1⟩)
 · have hx':(x != 0)=true:=by simpa using hx
   have HX:Hid (x≠0):=hx;have hR:=(hB1.block w.heap.size (by rw [HSZ0.out];omega)).trans HE0.out;have HR:Hid (w1.heap[w.heap.size]? = some (.cells #[.slice none 0 0,.slice none 0 0] 27 (0,0))):=hR;have hlw:w.heap.size<w1.heap.size:=by have:=hB1.size;rw [HSZ0.out] at this;omega
   have HB1:Hid (Below w.heap.size w w1):=below_after HB0.out hB1;have d0:w1.cell? ⟨w.heap.size,0,none⟩=some (.slice none 0 0):=cell_of_row _ _ 0 _ _ _ hR;have df0:w1.frozen? ⟨w.heap.size,0,none⟩=false:=frozen_of_row _ _ 0 _ _ hR;have d1:w1.cell? ⟨w.heap.size,1,none⟩=some (.slice none 0 0):=cell_of_row _ _ 1 _ _ _ hR;have df1:w1.frozen? ⟨w.heap.size,1,none⟩=false:=frozen_of_row _ _ 1 _ _ hR;clear h1 hx hB1 hR;go_wp2;refine bodyPost_ret (results_row_tmp2 rfl _ _ w.heap.size 27 #[.slice none 0 0,.slice none 0 0] (0,0) _ rfl ?_ Tryz.underlying27 rfl (by kernel_rfl)) rfl ?_
   · exact heap_set (heap_set HR.out _) _
   exact ⟨(HB1.out.setCell (by simp) _).setCell (by simp) _,.inl ⟨a,x,HQ.out,HX.out,rfl⟩⟩
 · obtain ⟨hends,hok⟩:=HTOK.out _ rfl;have hlpos:0<l.length:=by have:=hends.pos;simpa using this
   have hown':=hown;rcases hown.2 with ⟨rfl,h0⟩ | ⟨g,cp,cur,rfl,hb,hg,hc,hm,hs,ht⟩
   · omega
   have hsz1:w.heap.size+1<=w1.heap.size:=by have:=hB1.size;rw [HSZ0.out] at this;exact this
   have hBm:=below_alloc w1 (.map #[] 0);have hB2:Below w1.heap.size w1 ((w1.alloc (.map #[] 0)).alloc (.cells #[.slice (some ⟨g,0,none⟩) l.length cp,.int .i64 0,.map (some w1.heap.size),.slice none 0 0,.slice none 0 0,.int .i64 0] 51)):=below_after hBm (below_alloc _ _);have hsz2:((w1.alloc (.map #[] 0)).alloc (.cells #[.slice (some ⟨g,0,none⟩) l.length cp,.int .i64 0,.map (some w1.heap.size),.slice none 0 0,.slice none 0 0,.int .i64 0] 51)).heap.size=w1.heap.size+2:=by simp
   have hP:=heap_new' (w1.alloc (.map #[] 0)) (.cells #[.slice (some ⟨g,0,none⟩) l.length cp,.int .i64 0,.map (some w1.heap.size),.slice none 0 0,.slice none 0 0,.int .i64 0] 51);rw [World.size_alloc] at hP;have hmap:((w1.alloc (.map #[] 0)).alloc (.cells #[.slice (some ⟨g,0,none⟩) l.length cp,.int .i64 0,.map (some w1.heap.size),.slice none 0 0,.slice none 0 0,.int .i64 0] 51)).heap[w1.heap.size]? = some (.map #[] 0):=((below_alloc _ _).block _ (by simp)).trans (heap_new' w1 _);have hom:((w1.alloc (.map #[] 0)).alloc (.cells #[.slice (some ⟨g,0,none⟩) l.length cp,.int .i64 0,.map (some w1.heap.size),.slice none 0 0,.slice none 0 0,.int .i64 0] 51)).ownsMap Tryz.prog 9 heldR w1.heap.size 0 (.map []):=ownsMap_block (World.ownsMap_made w1 Tryz.prog 9 heldR) (((below_alloc (w1.alloc (.map #[] 0)) (.cells #[.slice (some ⟨g,0,none⟩) l.length cp,.int .i64 0,.map (some w1.heap.size),.slice none 0 0,.slice none 0 0,.int .i64 0] 51)).block _ (by simp)));have him:∀k,k<w1.heap.size+1->Im (XV NoX (.slice none 0 0)) ((w1.alloc (.map #[] 0)).alloc (.cells #[.slice (some ⟨g,0,none⟩) l.length cp,.int .i64 0,.map (some w1.heap.size),.slice none 0 0,.slice none 0 0,.int .i64 0] 51)) (w1.heap.size+1) k:=λk hk=>⟨by omega,by omega,λx hx=>by
    have:((w1.alloc (.map #[] 0)).alloc (.cells #[.slice (some ⟨g,0,none⟩) l.length cp,.int .i64 0,.map (some w1.heap.size),.slice none 0 0,.slice none 0 0,.int .i64 0] 51)).cell? ⟨w1.heap.size+1,3,none⟩=some (.slice none 0 0):=cell_of_row _ _ 3 _ _ _ hP;rw [this] at hx;obtain rfl:Value.slice none 0 0=x:=by simpa using hx
    simp [Value.ownBlock],λq=>q.elim id (λq=>by simp [Value.ownBlock] at q)⟩
   have hPT:PT ⟨g,0,l.length,cp,w1.heap.size,w1.heap.size,.slice none 0 0,λ_=>none,51⟩ (w1.heap.size+1) ((w1.alloc (.map #[] 0)).alloc (.cells #[.slice (some ⟨g,0,none⟩) l.length cp,.int .i64 0,.map (some w1.heap.size),.slice none 0 0,.slice none 0 0,.int .i64 0] 51)) [] ((l.map Prod.fst).map canT) []:=by
    refine ⟨⟨0,.slice none 0 0,hP,⟨by simp,by show l.length<=_;omega,hc,endsT_map hends,((toks_ready (m:=zs.length) (by omega) hown hso hok).to (λk hk=>⟨hB2.block k hk,him k (Nat.lt_succ_of_lt hk)⟩)),⟨[],World.ownsRow_nil _ _ _ _,⟨rfl,λi hi=>(by cases hi)⟩⟩,by simp [Value.ownBlock],by simp,⟨him w1.heap.size (by omega),0,.map [],by omega,hom,λx hx hl=>⟨λ_=>rfl,λs hs=>(by cases hs)⟩⟩,by show w1.heap.size<=_;omega,λj hj=>hj.elim (λq=>q.elim) (λq=>by simp [Value.ownBlock] at q)⟩,by omega⟩,World.ownsRow_nil _ _ _ _,λk hk=>by simp [Value.ownBlock] at hk,λx hx=>(by cases hx),by simp⟩
   have h2:=text_any _ (w1.heap.size+1) ((w1.alloc (.map #[] 0)).alloc (.cells #[.slice (some ⟨g,0,none⟩) l.length cp,.int .i64 0,.map (some w1.heap.size),.slice none 0 0,.slice none 0 0,.int .i64 0] 51)) [] _ [] hPT (Nat.le_refl _) (l.length+1) (by simp);have HEQ:Hid (q=match textF (l.length+1) (λ_=>none) [] ((l.map Prod.fst).map canT) [] with
    | .inl (r,e) => .inl ((hdT r).p,e)
    | .inr x => .inr x):=by
    show _=_;rw [HQ.out];show parseL (.inr (l.map Prod.fst))=_;unfold parseL;simp only [List.length_map];rfl
   obtain ⟨qt,hqt⟩ :∃qt,qt=textF (l.length+1) (λ_=>none) [] ((l.map Prod.fst).map canT) []:=⟨_,rfl⟩;have HE2:Hid ((∀r e,qt = .inl (r,e)->q = .inl ((hdT r).p,e))/\∀x,qt = .inr x->q = .inr x):=by
    have h5:=HEQ.out;rw [<- hqt] at h5;exact ⟨λr e he=>by rw [h5,he],λx he=>by rw [h5,he]⟩
   have h2':Calls Tryz.prog 19 #[.pointer (some ⟨w1.heap.size+1,0,none⟩)] ((w1.alloc (.map #[] 0)).alloc (.cells #[.slice (some ⟨g,0,none⟩) l.length cp,.int .i64 0,.map (some w1.heap.size),.slice none 0 0,.slice none 0 0,.int .i64 0] 51)) λe w'=>TxA ⟨g,0,l.length,cp,w1.heap.size,w1.heap.size,.slice none 0 0,λ_=>none,51⟩ (w1.heap.size+1) qt ((w1.alloc (.map #[] 0)).alloc (.cells #[.slice (some ⟨g,0,none⟩) l.length cp,.int .i64 0,.map (some w1.heap.size),.slice none 0 0,.slice none 0 0,.int .i64 0] 51)) e w':=by rw [hqt];exact h2
   have HB2:Hid (Below w.heap.size w ((w1.alloc (.map #[] 0)).alloc (.cells #[.slice (some ⟨g,0,none⟩) l.length cp,.int .i64 0,.map (some w1.heap.size),.slice none 0 0,.slice none 0 0,.int .i64 0] 51))):=below_after (below_after HB0.out hB1) hB2;have HR2:Hid (((w1.alloc (.map #[] 0)).alloc (.cells #[.slice (some ⟨g,0,none⟩) l.length cp,.int .i64 0,.map (some w1.heap.size),.slice none 0 0,.slice none 0 0,.int .i64 0] 51)).heap[w.heap.size]? = some (.cells #[.slice none 0 0,.slice none 0 0] 27 (0,0))):=(hB2.block _ (by omega)).trans ((hB1.block w.heap.size (by rw [HSZ0.out];omega)).trans HE0.out);clear h1 h2 hown hown' hso hb hg hc hm hs ht hends hok hBm hB2 hP hmap hom him hPT HEQ HQ hqt HTOK hB1
   go_wp2_with fail
   refine h2'.mono ?_;rintro e w3 ⟨x,rfl,hB3,hx⟩;have hB3':Below w.heap.size w w3:=HB2.out.trans (hB3.mono (by show w.heap.size<=w1.heap.size;omega));have hR3:=(hB3.block w.heap.size (show w.heap.size<w1.heap.size by omega)).trans HR2.out;have HR3:Hid (w3.heap[w.heap.size]? = some (.cells #[.slice none 0 0,.slice none 0 0] 27 (0,0))):=hR3;have hlw:w.heap.size<w3.heap.size:=(Array.getElem?_eq_some_iff.1 hR3).1;have HB3:Hid (Below w.heap.size w w3):=hB3';clear h2' HB2;rcases hx with ⟨hx,c',X,r,st,he,hp⟩ | ⟨rfl,rv,N,rs,r,st,he,hpt⟩
   · have hx':(x != 0)=true:=by simpa using hx
     have HX:Hid (x≠0):=hx;obtain ⟨t,r',rfl⟩:=hp.ends.cons;have HE:Hid (q = .inl (t.p,x)):=HE2.out.1 _ _ he;have h3:=next_any c' X (w1.heap.size+1) w3 t r' st 0 hp;have hPl:=hp.lt;clear hx he hp hB3 hB3'
     go_wp2_with fail
     refine h3.mono ?_;rintro e w4 ⟨v4,rfl,hr4,hB4⟩;obtain ⟨va,vc,rfl⟩:=hr4.slice;unfold tokV;have hff:=field_tok1 (.int .i64 t.k) (.int .i64 (t.p:Int)) (.string (strOfNums t.t)) (.slice va t.s.length vc) w4;have hR4:=(hB4.block w.heap.size hlw).trans HR3.out;have HR4:Hid (w4.heap[w.heap.size]? = some (.cells #[.slice none 0 0,.slice none 0 0] 27 (0,0))):=hR4;have HB4:Hid (Below w.heap.size w w4):=below_after HB3.out hB4;have hlw4:w.heap.size<w4.heap.size:=(Array.getElem?_eq_some_iff.1 hR4).1;have d0:w4.cell? ⟨w.heap.size,0,none⟩=some (.slice none 0 0):=cell_of_row _ _ 0 _ _ _ hR4;have df0:w4.frozen? ⟨w.heap.size,0,none⟩=false:=frozen_of_row _ _ 0 _ _ hR4;have d1:w4.cell? ⟨w.heap.size,1,none⟩=some (.slice none 0 0):=cell_of_row _ _ 1 _ _ _ hR4;have df1:w4.frozen? ⟨w.heap.size,1,none⟩=false:=frozen_of_row _ _ 1 _ _ hR4;clear h3 hr4 hB4 hR4 hR3 HR3;go_wp2;refine bodyPost_ret (results_row_tmp2 rfl _ _ w.heap.size 27 #[.slice none 0 0,.slice none 0 0] (0,0) _ rfl ?_ Tryz.underlying27 rfl (by kernel_rfl)) rfl ?_
     · exact heap_set (heap_set HR4.out _) _
     exact ⟨(HB4.out.setCell (by simp) _).setCell (by simp) _,.inl ⟨t.p,x,HE.out,HX.out,rfl⟩⟩
   · have HE:Hid (q = .inr (rs.map Prod.fst,st)):=HE2.out.2 _ he;obtain ⟨p1,p2,p3,p4,p5⟩:=hpt;have hPl:=p1.lt;obtain ⟨cr,_,_⟩:=p1.rv;have cr':w3.cell? ⟨w1.heap.size+1,4,none⟩=some rv:=cr;obtain ⟨ad,capS,vs,cs,_,_,hl60,hownS,hss,_,_,_⟩:=p1.sets;obtain ⟨ra,rc,rfl⟩ :∃a cp,rv = .slice a rs.length cp:=by
      rcases p2.2 with ⟨e1,e2⟩ | ⟨g,cap,cur,e1,_⟩
      · exact ⟨none,0,by rw [show rv = .slice none 0 0 from e1,e2]⟩
      · exact ⟨_,_,e1⟩
     have hni:NoInt w3 w.heap.size:=λoff k x hx=>by
      simp only [World.cell?,hR3] at hx
      match off,hx with
      | 0,hx=>simp at hx
      | 1,hx=>simp at hx
      | n+2,hx=>simp at hx
     have hWr:Wr w.heap.size w3 ((w3.setCell ⟨w.heap.size,0,none⟩ (.slice ad st.length capS)).setCell ⟨w.heap.size,1,none⟩ (.slice ra rs.length rc)):=((Wr.refl _ w3).set 0 _).set 1 _;have hto:∀(Y:Nat->Prop),(∀k,Y k->k<w3.heap.size)->∀k,(Y k/\k≠w.heap.size)->((w3.setCell ⟨w.heap.size,0,none⟩ (.slice ad st.length capS)).setCell ⟨w.heap.size,1,none⟩ (.slice ra rs.length rc)).heap[k]? = w3.heap[k]? /\ k<((w3.setCell ⟨w.heap.size,0,none⟩ (.slice ad st.length capS)).setCell ⟨w.heap.size,1,none⟩ (.slice ra rs.length rc)).heap.size:=λY hY k hk=>⟨hWr.block k hk.2,by rw [hWr.size];exact hY k hk.1⟩;have hbw:w.heap.size<w1.heap.size:=by omega
     have HPG:Hid (PrgAt w.heap.size ((w3.setCell ⟨w.heap.size,0,none⟩ (.slice ad st.length capS)).setCell ⟨w.heap.size,1,none⟩ (.slice ra rs.length rc)) (.slice ad st.length capS) (.slice ra rs.length rc) rs st):=by
      refine ⟨⟨vs,own_block (own_mono hownS (by show w.heap.size<=w1.heap.size;omega)) (λk hk=>hWr.block k (λq => ?_)),(hss.offN hni).to (hto _ (λk hk=>hk.1))⟩,own_block (own_mono p2 (by show w.heap.size<=w1.heap.size;omega)) (λk hk=>hWr.block k (λq => ?_)),(p4.offN hni).to (hto _ (λk hk=>hk.1.1)),hl60,p5⟩
      · have h5:w1.heap.size<=k:=(hownS.lt k hk).1;omega
      · have h5:w1.heap.size<=k:=(p2.lt k hk).1;omega
     have d0:w3.cell? ⟨w.heap.size,0,none⟩=some (.slice none 0 0):=cell_of_row _ _ 0 _ _ _ hR3;have df0:w3.frozen? ⟨w.heap.size,0,none⟩=false:=frozen_of_row _ _ 0 _ _ hR3;have d1:w3.cell? ⟨w.heap.size,1,none⟩=some (.slice none 0 0):=cell_of_row _ _ 1 _ _ _ hR3;have df1:w3.frozen? ⟨w.heap.size,1,none⟩=false:=frozen_of_row _ _ 1 _ _ hR3;clear he p1 p2 p3 p4 p5 cr hownS hss hni hWr hto hR3 hB3 hB3';go_wp2;refine bodyPost_ret (results_row_tmp2 rfl _ _ w.heap.size 27 #[.slice ad st.length capS,.slice ra rs.length rc] (0,0) _ rfl ?_ Tryz.underlying27 rfl (by kernel_rfl)) rfl ?_
     · exact heap_set (heap_set HR3.out _) _
     exact ⟨(HB3.out.setCell (by simp) _).setCell (by simp) _,.inr ⟨rs,st,_,_,HE.out,rfl,HPG.out⟩⟩
end Go.Proofs.YtfdjchnckjgapaaGreatDoor
namespace Go.Proofs.YtfdjchnckjgapaaGreatDoor
set_option maxHeartbeats 2000000
set_option maxRecDepth 100000
open Go.RowKit
set_option linter.unusedVariables false
theorem with_any (base:Nat) (l:List Rg) (lo hi:Int) (v:Value) (w:World) (hlen:l.length<=600000) (hbd:-10<=lo/\lo<=2000000) (hbase:base<=w.heap.size) (hown:w.ownsRow base 94 2 v l.length (cellsRs l)) :
 Calls Tryz.prog 138 #[v,.int .i64 lo,.int .i64 hi] w λe w'=>∃v',e = .returned v'/\w'.ownsRow base 94 2 v' (withL l lo hi).length (cellsRs (withL l lo hi))/\Below base w w':=by
 obtain ⟨i0,hi0,hz0,hz1,hz2⟩:=info_parts Tryz.infoRange;obtain ⟨a,cap,rfl,hc,hcell⟩:=rng_of_row hown;have HO:Hid (w.ownsRow base 94 2 (.slice a l.length cap) l.length (cellsRs l)):=hown;clear hown;rcases list_last l with rfl | ⟨ini,s,rfl⟩
 · have HO2:Hid ((w.alloc (.cells #[.int .i64 lo,.int .i64 hi] 94)).ownsRow base 94 2 (.slice a 0 cap) 0 []):=World.ownsRow.alloc HO.out _;have HN:Hid _:=heap_new' w (.cells #[.int .i64 lo,.int .i64 hi] 94);have HB:Hid (Below base w (w.alloc (.cells #[.int .i64 lo,.int .i64 hi] 94))):=(Below.refl base w).alloc hbase _;rw [withL_nil];clear hcell HO;have hid:decide ((0:Int)<0)=false:=rfl;go_enter Tryz.func138,Tryz.ntmps138
   go_wp2_with (at_builtin;go_must (refine wpList_append_own _ rfl (.tmp 30) (.tmp 34) 43 rfl base 94 i0 (.agg #[.int .i64 0,.int .i64 0]) 2 16 Tryz.underlying43 hi0 hz0 hz1 hz2 rfl (by decide) _ _ _ rfl HO2.out ⟨w.heap.size,0,none⟩ 1 1 (cellsR ⟨lo,hi⟩) rfl rfl (World.news_of_block HN.out) (by simp [cellsR,Value.oneCell']) (by unfold maxLen;omega) (by omega) (by simp;omega) ?_);intro v' w1 hown' hgrow hnil)
   go_ret;exact ⟨v',rfl,by simpa [cellsRs] using hown',HB.out.grown hgrow (by simp;omega) (λj e=>(World.ownsRow.lt HO2.out j e).1)⟩
 · have hl1:(ini++[s]).length=ini.length+1:=by simp
   have hle:ini.length+1<=600000:=by rw [<- hl1];exact hlen
   obtain ⟨g,off,rfl,hg,c0,c1⟩:=hcell ini.length (by omega);have e1:(ini++[s])[ini.length]'(by omega)=s:=by simp
   rw [e1] at c0 c1;have hoff:off=0/\base<=g:=by
    rcases HO.out.2 with ⟨e,_⟩ | ⟨g',cap',cur,e,hb,_⟩
    · cases e
    · simp at e;exact ⟨e.1.2,by rw [e.1.1];exact hb⟩
   obtain ⟨hoff,hbg⟩:=hoff;subst hoff;simp only [Nat.zero_add] at c0 c1;rw [hl1] at HO hc ⊢;have f1:w.frozen? ⟨g,ini.length*2+1,none⟩=false:=own_frozen HO.out _;clear hcell hlen e1;have hn0:(0:Int)<(ini.length:Int)+1:=by omega
   by_cases q:s.hi=lo-1
   · rw [withL_join q];have hq:(s.hi==lo-1)=true:=by simp [q]
     clear q;have HO4:Hid ((w.setCell ⟨g,ini.length*2+1,none⟩ (.int .i64 hi)).ownsRow base 94 2 (.slice (some ⟨g,0,none⟩) (ini.length+1) cap) (ini++[(⟨s.lo,hi⟩:Rg)]).length (cellsRs (ini++[⟨s.lo,hi⟩]))):=by
      have:=own_grow (base:=base) (g:=g) (cap:=cap) (ini:=ini) (s:=s) (w:=w) (by rw [hl1];exact HO.out) hi;rw [hl1] at this;exact this
     have HB4:Hid (Below base w (w.setCell ⟨g,ini.length*2+1,none⟩ (.int .i64 hi))):=(Below.refl base w).setCell (p:=⟨g,ini.length*2+1,none⟩) hbg _;clear HO;go_enter Tryz.func138,Tryz.ntmps138;go_wp2;go_ret;exact ⟨.slice (some ⟨g,0,none⟩) (ini.length+1) cap,rfl,HO4.out,HB4.out⟩
   · rw [withL_snoc q];have hq:(s.hi==lo-1)=false:=by simp [q]
     clear q;have HO3:Hid ((w.alloc (.cells #[.int .i64 lo,.int .i64 hi] 94)).ownsRow base 94 2 (.slice (some ⟨g,0,none⟩) (ini.length+1) cap) (ini.length+1) (cellsRs (ini++[s]))):=World.ownsRow.alloc HO.out _;have HN3:Hid _:=heap_new' w (.cells #[.int .i64 lo,.int .i64 hi] 94);have HB3:Hid (Below base w (w.alloc (.cells #[.int .i64 lo,.int .i64 hi] 94))):=(Below.refl base w).alloc hbase _;clear HO;go_enter Tryz.func138,Tryz.ntmps138
     go_wp2_with (at_builtin;go_must (refine wpList_append_own _ rfl (.tmp 30) (.tmp 34) 43 rfl base 94 i0 (.agg #[.int .i64 0,.int .i64 0]) 2 16 Tryz.underlying43 hi0 hz0 hz1 hz2 rfl (by decide) _ _ _ rfl HO3.out ⟨w.heap.size,0,none⟩ 1 1 (cellsR ⟨lo,hi⟩) rfl rfl (World.news_of_block HN3.out) (by simp [cellsR,Value.oneCell']) (by unfold maxLen;omega) (by omega) (by simp;omega) ?_);intro v' w1 hown' hgrow hnil)
     go_ret;refine ⟨v',rfl,?_,HB3.out.grown hgrow (by simp;omega) (λj e=>(World.ownsRow.lt HO3.out j e).1)⟩;rw [cellsRs_snoc];simpa using hown'
set_option maxHeartbeats 4000000
set_option maxRecDepth 100000
def RngSrc (w:World) (v:Value) (l:List Rg):Prop:=RngIn w v l/\SrcIs w v l.length 2 (cellsRs l)
theorem RngSrc.below {w w':World} {v:Value} {l:List Rg} (h:RngSrc w v l) (hb:Below w.heap.size w w'):RngSrc w' v l:=⟨h.1.below hb,h.2.below hb⟩
theorem RngSrc.nil (w:World):RngSrc w (.slice none 0 0) []:=⟨RngAt.nil _ _,.inl ⟨rfl,rfl,rfl⟩⟩
theorem RngSrc.row {w:World} {base:Nat} {v:Value} {l:List Rg} (h:w.ownsRow base 94 2 v l.length (cellsRs l)):RngSrc w v l:=⟨rng_of_row h,src_of_row h (cellsRs_one l)⟩
theorem refHas_any (a:List Rg) (hlen:a.length<=600000) (y:Int) (v:Value) (w:World) (hv:RngIn w v a) :
 Calls Tryz.prog 137 #[v,.int .i64 y] w λe w'=>e = .returned (.bool (hasR a y))/\w'=w:=by
 obtain ⟨ad,cap,rfl,hc,hcell⟩:=hv;have HA:Hid (∀i,(h:i<a.length)->∃g off,ad=some ⟨g,off,none⟩/\g<w.heap.size/\w.cell? ⟨g,off+i*2,none⟩=some (.int .i64 a[i].lo)/\w.cell? ⟨g,off+i*2+1,none⟩=some (.int .i64 a[i].hi)):=hcell;clear hcell;obtain ⟨fin,hfin⟩ :∃fin,hasR a y=fin:=⟨_,rfl⟩;have HF:Hid (hasR a y=fin):=hfin;rw [hfin];clear hfin;go_enter Tryz.func137,Tryz.ntmps137;go_wp2
 go_loopw [5] (λx wr=>∃k:Nat,k<=a.length/\x = .int .i64 k/\(∀i,(h:i<a.length)->i<k->¬(a[i].lo<=y/\y<=a[i].hi))/\wr=w) (λx _=>a.length-(intOf x).toNat)
 case atStart=>exact ⟨0,Nat.zero_le _,rfl,λi h q=>by omega,rfl⟩
 case round =>
  obtain ⟨k,hk,rfl,hno,rfl⟩:=hrel;have HNO:Hid (∀i,(h:i<a.length)->i<k->¬(a[i].lo<=y/\y<=a[i].hi)):=hno;clear hno;by_cases hlt:k<a.length
  · obtain ⟨g,off,rfl,hg,c0,c1⟩:=HA.out k hlt;obtain ⟨r,hr⟩ :∃r,r=a[k]:=⟨_,rfl⟩;rw [<- hr] at c0 c1;have HR:Hid (r=a[k]):=hr;clear hr;by_cases q:r.lo<=y
    · by_cases q2:y<=r.hi
      · have HE:Hid (fin=true):=by
         show fin=true;rw [<- HF.out];exact hasR_iff.2 ⟨r,by rw [HR.out];exact List.getElem_mem hlt,q,q2⟩
        go_wp2;go_ret;exact ⟨by rw [HE.out];rfl,rfl⟩
      · have HN2:Hid (∀i,(h:i<a.length)->i<k+1->¬(a[i].lo<=y/\y<=a[i].hi)):=λi h z=>by
         by_cases e:i=k
         · subst e;rw [<- HR.out];omega
         · exact HNO.out i h (by omega)
        go_wp2
        go_roundw
        case rel=>exact ⟨k+1,by omega,by go_num,HN2.out,trivial⟩
        case measure=>simp [intOf];omega
    · have HN2:Hid (∀i,(h:i<a.length)->i<k+1->¬(a[i].lo<=y/\y<=a[i].hi)):=λi h z=>by
       by_cases e:i=k
       · subst e;rw [<- HR.out];omega
       · exact HNO.out i h (by omega)
      have hq:decide (r.lo<=y)=false:=by simpa using q
      go_wp2
      go_roundw
      case rel=>exact ⟨k+1,by omega,by go_num,HN2.out,trivial⟩
      case measure=>simp [intOf];omega
  · obtain rfl:k=a.length:=by omega
    have HE:Hid (fin=false):=by
     show fin=false;rw [<- HF.out];cases q:hasR a y with
     | false=>rfl
     | true =>
      obtain ⟨r,hr,z1,z2⟩:=hasR_iff.1 q;obtain ⟨i,hi,rfl⟩:=List.getElem_of_mem hr;exact absurd ⟨z1,z2⟩ (HNO.out i hi hi)
    go_wp2;go_ret;exact ⟨by rw [HE.out];rfl,rfl⟩
theorem stepE_length (out:List Int) (r:Rg):(stepE out r).length<=out.length+2:=by
 unfold stepE;have h1:=insE_length out r.lo
 split
 · have h2:=insE_length (insE out r.lo) (r.hi+1);omega
 · omega
theorem insE_pos (l:List Int) (n:Int):1<=(insE l n).length:=by
 cases l with
 | nil=>simp [insE]
 | cons y l =>
  unfold insE
  repeat' split
  all_goals simp
theorem stepE_pos (out:List Int) (r:Rg):1<=(stepE out r).length:=by
 unfold stepE
 split
 · exact insE_pos _ _
 · exact insE_pos _ _
theorem edges_length:∀(l:List Rg) (out:List Int),(l.foldl stepE out).length<=out.length+2*l.length
 | [],out=>by simp
 | r::l,out=>by
  have:=edges_length l (stepE out r);have:=stepE_length out r;simp only [List.foldl_cons,List.length_cons];omega
theorem ints_lit (w:World) (n:Int):IntsIn (w.alloc (.cells #[.int .i64 n] 3)) (.slice (some ⟨w.heap.size,0,none⟩) 1 1) [n]:=by
 refine ⟨_,1,rfl,Nat.le_refl _,λi hi=>⟨_,_,rfl,by simp,?_⟩⟩;obtain rfl:i=0:=by simpa using hi
 exact cell_of_row _ _ 0 _ _ _ (heap_new' w _)
theorem edges_any (a b:List Rg) (ha:a.length<=20000) (hb:b.length<=20000) (fa:Fits a) (fb:Fits b) (va vb:Value) (w:World) (hva:RngSrc w va a) (hvb:RngSrc w vb b) :
 Calls Tryz.prog 136 #[va,vb] w λe w'=>∃v',e = .returned v'/\IntsIn w' v' (edgesL (a++b))/\Below w.heap.size w w':=by
 obtain ⟨i0,hi0,hz0,hz1,hz2⟩:=info_parts Tryz.infoRange;have HSA:=hva.2;have HSB:Hid (SrcIs w vb b.length 2 (cellsRs b)):=hvb.2;obtain ⟨ada,ca,rfl,_,_⟩:=hva.1;obtain ⟨adb,cb,rfl,_,_⟩:=hvb.1;clear hva hvb;have HI0:Hid (IntsIn (w.alloc (.cells #[.int .i64 0] 3)) (.slice (some ⟨w.heap.size,0,none⟩) 1 1) [0]):=ints_lit w 0;have hB0:Below w.heap.size w ((w.alloc (.cells #[.int .i64 0] 3)).alloc (.cells #[] 94)):=((Below.refl _ w).alloc (Nat.le_refl _) _).alloc (by simp) _;have HS1:Hid (SrcIs ((w.alloc (.cells #[.int .i64 0] 3)).alloc (.cells #[] 94)) (.slice ada a.length ca) a.length 2 (cellsRs a)):=HSA.below hB0;have hown0:=owns_empty (w.alloc (.cells #[.int .i64 0] 3)) (w.heap.size+1) 94 2 (by simp);rw [World.size_alloc] at hown0;have HO0:Hid (((w.alloc (.cells #[.int .i64 0] 3)).alloc (.cells #[] 94)).ownsRow (w.heap.size+1) 94 2 (.slice (some ⟨w.heap.size+1,0,none⟩) 0 0) 0 []):=hown0;clear hown0 HSA;have FA:Hid (Fits (a++b)):=λr hr=>(List.mem_append.1 hr).elim (fa r) (fb r);clear fa fb;obtain ⟨l,hl⟩ :∃l,a++b=l:=⟨_,rfl⟩;have hll:l.length<=40000:=by rw [<- hl];simp;omega
 rw [hl] at FA ⊢;have HL:Hid (a++b=l):=hl;clear hl;go_enter Tryz.func136,Tryz.ntmps136
 go_wp2_with (first | (at_builtin;refine wpList_append_src _ rfl (.tmp 9) (.tmp 10) 43 rfl (w.heap.size+1) 94 i0 (.agg #[.int .i64 0,.int .i64 0]) 2 16 Tryz.underlying43 hi0 hz0 hz1 hz2 rfl (by decide) _ _ _ rfl HO0.out _ rfl a.length _ HS1.out (by unfold maxLen;omega) (by omega) (by simp) ?_;intro v1 w1 ho1 hg1;have hB1':Below (w.heap.size+1) (w.alloc (.cells #[.int .i64 0] 3)) w1:=((Below.refl _ _).alloc (by simp) _).grown hg1 (by simp) (λj e=>(World.ownsRow.lt HO0.out j e).1);have hB1:Below w.heap.size w w1:=((Below.refl _ w).alloc (Nat.le_refl _) _).trans (hB1'.mono (by omega));have hs1:=hB1.size;have hs1':=hB1'.size;have hsr2:=HSB.out.below hB1;have HO1:Hid (w1.ownsRow (w.heap.size+1) 94 2 v1 (0+a.length) ([]++cellsRs a)):=ho1;clear ho1 hg1) | (at_builtin;refine wpList_append_src _ rfl (.tmp 11) (.tmp 12) 43 rfl (w.heap.size+1) 94 i0 (.agg #[.int .i64 0,.int .i64 0]) 2 16 Tryz.underlying43 hi0 hz0 hz1 hz2 rfl (by decide) _ _ _ rfl HO1.out _ rfl b.length _ hsr2 (by unfold maxLen;omega) (by omega) (by simpa using hs1') ?_;intro v2 w2 ho2 hg2))
 have hB2':Below (w.heap.size+1) (w.alloc (.cells #[.int .i64 0] 3)) w2:=hB1'.grown (show w1.grownBy w2 v1.ownBlock from hg2) (by simpa using hs1') (λj e=>(World.ownsRow.lt HO1.out j e).1);have hB2:Below w.heap.size w w2:=((Below.refl _ w).alloc (Nat.le_refl _) _).trans (hB2'.mono (by omega));have HR2:RngIn w2 v2 (a++b):=by
  refine rng_of_row (base:=w.heap.size+1) ?_;have:w2.ownsRow (w.heap.size+1) 94 2 v2 (0+a.length+b.length) ([]++cellsRs a++cellsRs b):=ho2;have e:(a++b).length=0+a.length+b.length:=by simp
  rw [e,cellsRs_append];simpa using this
 have HI2:Hid (IntsIn w2 (.slice (some ⟨w.heap.size,0,none⟩) 1 1) [0]):=HI0.out.below (by rw [World.size_alloc];exact hB2');rw [HL.out] at HR2;obtain ⟨ad2,c2,rfl,_,hcell⟩:=HR2;have HA:Hid (∀i,(h:i<l.length)->∃g off,ad2=some ⟨g,off,none⟩/\g<w2.heap.size/\w2.cell? ⟨g,off+i*2,none⟩=some (.int .i64 l[i].lo)/\w2.cell? ⟨g,off+i*2+1,none⟩=some (.int .i64 l[i].hi)):=hcell;have hbs2:=hB2.size;clear hcell ho2 hg2 hsr2 HO1 HO0 HS1 HSB hB1 hB1' hB2' hB0 HI0 hs1 hs1' HL;go_wp2
 go_loopw [5,7] (λy x wr=>∃k:Nat,k<=l.length/\x = .int .i64 k/\IntsIn wr y ((l.take k).foldl stepE [0])/\Below w2.heap.size w2 wr) (λ_ x _=>l.length-(intOf x).toNat)
 case atStart=>exact ⟨0,Nat.zero_le _,rfl,HI2.out,Below.refl _ _⟩
 case round =>
  obtain ⟨k,hk,rfl,hin,hB⟩:=hrel;have hpos:1<=((l.take k).foldl stepE [0]).length:=by
   rcases list_last (l.take k) with e | ⟨ini,s,e⟩
   · rw [e];simp
   · rw [e,List.foldl_append];exact stepE_pos _ _
  have hlen:=edges_length (l.take k) [0];obtain ⟨es,hes⟩ :∃es,es=(l.take k).foldl stepE [0]:=⟨_,rfl⟩;rw [<- hes] at hin hpos hlen;have HES:Hid (es=(l.take k).foldl stepE [0]):=hes;have hlen2:es.length<=80001:=by simp only [List.length_take,List.length_cons,List.length_nil] at hlen;omega
  clear hes hlen;have HI:Hid (IntsIn wr _ es):=hin;obtain ⟨ade,ce,rfl,_,_⟩:=hin;have hbs:=hB.size;by_cases hlt:k<l.length
  · obtain ⟨g,off,rfl,hg,c0,c1⟩:=HA.out k hlt;obtain ⟨r,hr⟩ :∃r,r=l[k]:=⟨_,rfl⟩;rw [<- hr] at c0 c1;have hrf:=FA.out r (by rw [hr];exact List.getElem_mem hlt);have HST:Hid ((l.take (k+1)).foldl stepE [0]=stepE es r):=by
     show _=_;rw [List.take_succ_eq_append_getElem hlt,List.foldl_append,HES.out,hr];rfl
    have d0:wr.cell? ⟨g,off+k*2,none⟩=some (.int .i64 r.lo):=(hB.cell (p:=⟨g,_,none⟩) hg).trans c0;clear c0 hr HES
    go_wp2_with fail
    refine (rising_any es r.lo _ wr hpos (by omega) HI.out).mono ?_;rintro e w3 ⟨v3,rfl,hi3,hB3⟩;have hs3:=hB3.size;have hB23:Below w2.heap.size w2 w3:=hB.trans (hB3.mono hbs);have HI3:Hid (IntsIn w3 v3 (insE es r.lo)):=hi3;have d1:w3.cell? ⟨g,off+k*2+1,none⟩=some (.int .i64 r.hi):=(hB23.cell (p:=⟨g,_,none⟩) hg).trans c1;have hln3:=insE_length es r.lo;have hps3:=insE_pos es r.lo;obtain ⟨ad3,c3,rfl,_,_⟩:=hi3;clear d0 c1 HI;by_cases q:r.hi<1114111
    · have HSE:Hid (stepE es r=insE (insE es r.lo) (r.hi+1)):=by show _=_;unfold stepE;rw [if_pos q]
      go_wp2_with fail
      refine (rising_any (insE es r.lo) (r.hi+1) _ w3 hps3 (by omega) HI3.out).mono ?_;rintro e w4 ⟨v4,rfl,hi4,hB4⟩;have hB24:Below w2.heap.size w2 w4:=hB23.trans (hB4.mono (by omega));have HI4:Hid (IntsIn w4 v4 (insE (insE es r.lo) (r.hi+1))):=hi4;clear d1 hi4;go_wp2
      go_roundw
      case rel=>exact ⟨k+1,by omega,by go_num,by rw [HST.out,HSE.out];exact HI4.out,hB24⟩
      case measure=>simp [intOf];omega
    · have HSE:Hid (stepE es r=insE es r.lo):=by show _=_;unfold stepE;rw [if_neg q]
      go_wp2
      go_roundw
      case rel=>exact ⟨k+1,by omega,by go_num,by rw [HST.out,HSE.out];exact HI3.out,hB23⟩
      case measure=>simp [intOf];omega
  · obtain rfl:k=l.length:=by omega
    have HE:Hid (edgesL l=es):=by show _=_;rw [HES.out,List.take_length];rfl
    go_wp2;go_ret;exact ⟨_,rfl,by rw [HE.out];exact HI.out,hB2.trans (hB.mono hbs2)⟩
end Go.Proofs.YtfdjchnckjgapaaGreatDoor
