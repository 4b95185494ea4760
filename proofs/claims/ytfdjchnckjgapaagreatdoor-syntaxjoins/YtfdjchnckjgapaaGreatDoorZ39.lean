/-
  RParP Aw8
-/
import Derived.Test.YtfdjchnckjgapaaGreatDoorZ31
import Derived.Test.YtfdjchnckjgapaaGreatDoorZ23
import Derived.Test.YtfdjchnckjgapaaGreatDoorZ38
import Derived.Test.YtfdjchnckjgapaaGreatDoorZ37
namespace Go.Proofs.YtfdjchnckjgapaaGreatDoor
set_option maxHeartbeats 16000000
set_option maxRecDepth 100000
open Go.RowKit Go.Shelf S1
set_option linter.unusedVariables false
theorem toks_readyR {w:World} {base:Nat} {l:List (Tok×Value)} {g cp:Nat} {m:Nat} (hm:m<=70000) (hown:w.ownsRow base 54 4 (.slice (some ⟨g,0,none⟩) l.length cp) l.length (cellsTs l)) (hso:RSets w base l) (hok:∀t∈l.map Prod.fst,TkOk m t):TokS (λk=>k<w.heap.size) w g 0 0 ((l.map Prod.fst).map canT):=λi hi=>by
 have hi':i<l.length:=by simpa using hi
 obtain ⟨a,cap,e,_,hx⟩:=toks_of_row hown;obtain ⟨rfl,_,rfl⟩:some ⟨g,0,none⟩=a/\l.length=l.length/\cp=cap:=by simpa using e
 obtain ⟨g',off',e2,h0,h1,h2,h3,h4⟩:=hx i hi';obtain ⟨rfl,rfl⟩:g=g'/\0=off':=by simpa using e2
 obtain ⟨s,s1,s3⟩:=hso l[i] (List.getElem_mem hi');obtain ⟨o1,o2,o3⟩:=hok l[i].1 (List.mem_map_of_mem (List.getElem_mem hi'));have el:((l.map Prod.fst).map canT)[i]=canT l[i].1:=by simp
 rw [el];have es:(canT l[i].1).s=s:=mkS_eq o1 s1;rw [es];rw [show 0+(0+i)*4=0+i*4 by omega];exact ⟨h0,h1,h2,h3,⟨l[i].2,h4,rngS_of_row s3 (λk _ hk=>hk)⟩,s1.isSet,o2,by have:=o3;show l[i].1.t.length<=_;omega⟩
theorem nameM_leftL {N N':Nms} {ts r:List Tok} (h:nameM N ts = .inr (N',r)):Left ts r:=by
 unfold nameM at h
 split at h
 · cases h
 · rename_i hn;have h0:=leftS_tail (ts:=ts) (name_end (by simpa using hn))
   split at h
   · cases h
   · split at h
     · cases h
     · rename_i hs;have h1:=left_tail_sign (c:=61) (ts:=ts.tail) (by simpa using hs);have h2:=endQ_left (c:=59) (sumM_left N 20 ts.tail.tail)
       split at h
       · cases h
       · rename_i s r1 he;rw [he] at h2;simp only [Sum.inr.injEq,Prod.mk.injEq] at h;rw [<- h.2];exact ((h0.trans h1.left).trans (LeftS.left h2)).left
theorem ruleM_leftL {N:Nms} {ts:List Tok} {st:Sts} {x:Rl} {r:List Tok} {st':Sts} (hk:(hdT ts).k≠4) (h:ruleM N ts st = .inr (x,r,st')):Left ts r:=by
 have h0:=leftS_tail hk;unfold ruleM at h;have h1:=endN_left (c:=47) (regexM_left N 20 ts.tail st)
 split at h
 · cases h
 · rename_i l r1 st1 he;rw [he] at h1;have h2:=endN_left (c:=59) (regexM_left N 20 r1 st1)
   split at h
   · cases h
   · rename_i n r2 st2 he2;rw [he2] at h2;cases h;exact (LeftS.trans h0 (Left.trans h1 h2)).left
theorem senM_leftL {N N':Nms} {rs rs':List Rl} {ts r:List Tok} {st st':Sts} (hk:(hdT ts).k≠4) (h:senM N rs ts st = .inr (N',rs',r,st')):Left ts r:=by
 have h0:=leftS_tail hk;unfold senM at h
 split at h
 · cases hn:nameM N ts.tail with
   | inl x=>rw [hn] at h;cases h
   | inr x =>
    rw [hn] at h;simp only [Sum.inr.injEq,Prod.mk.injEq] at h;rw [<- h.2.2.1];exact (h0.trans (nameM_leftL hn)).left
 · split at h
   · cases h
   · split at h
     · cases h
     · cases hn:ruleM N ts st with
       | inl x=>rw [hn] at h;cases h
       | inr x =>
        rw [hn] at h;simp only [Sum.inr.injEq,Prod.mk.injEq] at h;rw [<- h.2.2.1];exact ruleM_leftL hk hn
def leftE (n:Nat) (w:World) (P:Nat):Nat:=match w.cell? ⟨P,5,none⟩ with
 | some (.int _ x)=>if x=0 then leftP n w P+1 else 0
 | _=>0
theorem Pa.leftE {c:Pc} {X:Nat->Prop} {P:Nat} {w:World} {ts:List Tok} {st:Sts} (h:Pa c X P w ts st 0):leftE c.n w P=ts.length+1:=by
 unfold Go.Proofs.YtfdjchnckjgapaaGreatDoor.leftE;rw [h.dep.1];simp [h.left]
theorem Pa.leftE0 {c:Pc} {X:Nat->Prop} {P:Nat} {w:World} {ts:List Tok} {st:Sts} {d:Nat} (h:Pa c X P w ts st d) (hd:d≠0) (n:Nat):Go.Proofs.YtfdjchnckjgapaaGreatDoor.leftE n w P=0:=by
 unfold Go.Proofs.YtfdjchnckjgapaaGreatDoor.leftE;rw [h.dep.1];simp [hd]
theorem rparse_any8 (zs:List Int) (hby:Byt zs) (hz:zs.length<=5000) (us:List U) (hus:Run zs 0 us zs.length) (ta:Option Addr) (cap:Nat) (w:World) (hI:BytesAt w.heap.size w (.slice ta zs.length cap) zs) :
 Calls Tryz.prog 10 #[.slice ta zs.length cap] w λe w'=>PaA w (parseL (toksL zs.length us)) e w':=by
 have hB0:=below_alloc w (.cells #[.slice none 0 0,.slice none 0 0] 27);have h1:=refTokens_any zs hby (by omega) us hus ta cap (w.alloc (.cells #[.slice none 0 0,.slice none 0 0] 27)) ((hI.below hB0).mono hB0.size);have HTOK:Hid (∀l,toksL zs.length us=TR.good l->EndsT l/\(∀t∈l,TkOk zs.length t)/\l.length<=zs.length+1/\(entsOf l).length<=zs.length):=λl h=>⟨(toks_ok hus h).1,(toks_ok hus h).2,toks_few hus h,toks_count hus h⟩;have HB0:Hid (Below w.heap.size w (w.alloc (.cells #[.slice none 0 0,.slice none 0 0] 27))):=hB0;have HE0:Hid ((w.alloc (.cells #[.slice none 0 0,.slice none 0 0] 27)).heap[w.heap.size]? = some (.cells #[.slice none 0 0,.slice none 0 0] 27 (0,0))):=heap_new' _ _;have HSZ0:Hid ((w.alloc (.cells #[.slice none 0 0,.slice none 0 0] 27)).heap.size=w.heap.size+1):=by show _=_;simp
 obtain ⟨tr,htr⟩ :∃tr,tr=toksL zs.length us:=⟨_,rfl⟩;rw [<- htr] at h1 HTOK;rw [<- htr];obtain ⟨q,hq⟩ :∃q,q=parseL tr:=⟨_,rfl⟩;rw [<- hq];have HQ:Hid (q=parseL tr):=hq;have hmm:=@run_makeMap Tryz.prog;clear htr hq hI hus hby hB0;go_enter Tryz.func10,Tryz.ntmps10
 go_wp2_with fail
 refine h1.mono ?_;rintro e w1 (⟨a,x,rfl,rfl,hx,hB1⟩ | ⟨l,v,rfl,rfl,hown,hso,hB1⟩)
 · have hx':(x != 0)=true:=by simpa using hx
   have HX:Hid (x≠0):=hx;have hR:=(hB1.block w.heap.size (by rw [HSZ0.out];omega)).trans HE0.out;have HR:Hid (w1.heap[w.heap.size]? = some (.cells #[.slice none 0 0,.slice none 0 0] 27 (0,0))):=hR;have hlw:w.heap.size<w1.heap.size:=by have:=hB1.size;rw [HSZ0.out] at this;omega
   have HB1:Hid (Below w.heap.size w w1):=below_after HB0.out hB1;have d0:w1.cell? ⟨w.heap.size,0,none⟩=some (.slice none 0 0):=cell_of_row _ _ 0 _ _ _ hR;have df0:w1.frozen? ⟨w.heap.size,0,none⟩=false:=frozen_of_row _ _ 0 _ _ hR;have d1:w1.cell? ⟨w.heap.size,1,none⟩=some (.slice none 0 0):=cell_of_row _ _ 1 _ _ _ hR;have df1:w1.frozen? ⟨w.heap.size,1,none⟩=false:=frozen_of_row _ _ 1 _ _ hR;clear h1 hx hB1 hR;go_wp2;refine bodyPost_ret (results_row_tmp2 rfl _ _ w.heap.size 27 #[.slice none 0 0,.slice none 0 0] (0,0) _ rfl ?_ Tryz.underlying27 rfl (by kernel_rfl)) rfl ?_
   · exact heap_set (heap_set HR.out _) _
   exact ⟨(HB1.out.setCell (by simp) _).setCell (by simp) _,.inl ⟨a,x,HQ.out,HX.out,rfl⟩⟩
 · obtain ⟨hends,hok,hll,hec⟩:=HTOK.out _ rfl;have hll:l.length<=zs.length+1:=by simpa using hll
   have hlpos:0<l.length:=by have:=hends.pos;simpa using this
   have hown':=hown;rcases hown.2 with ⟨rfl,h0⟩ | ⟨g,cp,cur,rfl,hb,hg,hc,hm,hs,ht⟩
   · omega
   have hsz1:w.heap.size+1<=w1.heap.size:=by have:=hB1.size;rw [HSZ0.out] at this;exact this
   have hBm:=below_alloc w1 (.map #[] 0);have hB2:Below w1.heap.size w1 ((w1.alloc (.map #[] 0)).alloc (.cells #[.slice (some ⟨g,0,none⟩) l.length cp,.int .i64 0,.map (some w1.heap.size),.slice none 0 0,.slice none 0 0,.int .i64 0] 58)):=below_after hBm (below_alloc _ _);have hsz2:((w1.alloc (.map #[] 0)).alloc (.cells #[.slice (some ⟨g,0,none⟩) l.length cp,.int .i64 0,.map (some w1.heap.size),.slice none 0 0,.slice none 0 0,.int .i64 0] 58)).heap.size=w1.heap.size+2:=by simp
   have hP:=heap_new' (w1.alloc (.map #[] 0)) (.cells #[.slice (some ⟨g,0,none⟩) l.length cp,.int .i64 0,.map (some w1.heap.size),.slice none 0 0,.slice none 0 0,.int .i64 0] 58);rw [World.size_alloc] at hP;have hmap:((w1.alloc (.map #[] 0)).alloc (.cells #[.slice (some ⟨g,0,none⟩) l.length cp,.int .i64 0,.map (some w1.heap.size),.slice none 0 0,.slice none 0 0,.int .i64 0] 58)).heap[w1.heap.size]? = some (.map #[] 0):=((below_alloc _ _).block _ (by simp)).trans (heap_new' w1 _);have hom:((w1.alloc (.map #[] 0)).alloc (.cells #[.slice (some ⟨g,0,none⟩) l.length cp,.int .i64 0,.map (some w1.heap.size),.slice none 0 0,.slice none 0 0,.int .i64 0] 58)).ownsMap Tryz.prog 9 heldR w1.heap.size 0 (.map []):=ownsMap_block (World.ownsMap_made w1 Tryz.prog 9 heldR) (((below_alloc (w1.alloc (.map #[] 0)) (.cells #[.slice (some ⟨g,0,none⟩) l.length cp,.int .i64 0,.map (some w1.heap.size),.slice none 0 0,.slice none 0 0,.int .i64 0] 58)).block _ (by simp)));have him:∀k,k<w1.heap.size+1->Im (XV NoX (.slice none 0 0)) ((w1.alloc (.map #[] 0)).alloc (.cells #[.slice (some ⟨g,0,none⟩) l.length cp,.int .i64 0,.map (some w1.heap.size),.slice none 0 0,.slice none 0 0,.int .i64 0] 58)) (w1.heap.size+1) k:=λk hk=>⟨by omega,by omega,λx hx=>by
    have:((w1.alloc (.map #[] 0)).alloc (.cells #[.slice (some ⟨g,0,none⟩) l.length cp,.int .i64 0,.map (some w1.heap.size),.slice none 0 0,.slice none 0 0,.int .i64 0] 58)).cell? ⟨w1.heap.size+1,3,none⟩=some (.slice none 0 0):=cell_of_row _ _ 3 _ _ _ hP;rw [this] at hx;obtain rfl:Value.slice none 0 0=x:=by simpa using hx
    simp [Value.ownBlock],λq=>q.elim id (λq=>by simp [Value.ownBlock] at q)⟩
   have hPT:PT ⟨g,0,l.length,cp,w1.heap.size,w1.heap.size,.slice none 0 0,λ_=>none,58⟩ (w1.heap.size+1) ((w1.alloc (.map #[] 0)).alloc (.cells #[.slice (some ⟨g,0,none⟩) l.length cp,.int .i64 0,.map (some w1.heap.size),.slice none 0 0,.slice none 0 0,.int .i64 0] 58)) [] ((l.map Prod.fst).map canT) []:=by
    refine ⟨⟨0,.slice none 0 0,hP,⟨by simp,by show l.length<=_;omega,hc,endsT_map hends,((toks_readyR (m:=zs.length) (by omega) hown hso hok).to (λk hk=>⟨hB2.block k hk,him k (Nat.lt_succ_of_lt hk)⟩)),⟨[],World.ownsRow_nil _ _ _ _,⟨rfl,λi hi=>(by cases hi)⟩⟩,by simp [Value.ownBlock],by simp,⟨him w1.heap.size (by omega),0,.map [],by omega,hom,λx hx hl=>⟨λ_=>rfl,λs hs=>(by cases hs)⟩⟩,by show w1.heap.size<=_;omega,λj hj=>hj.elim (λq=>q.elim) (λq=>by simp [Value.ownBlock] at q)⟩,by omega⟩,World.ownsRow_nil _ _ _ _,λk hk=>by simp [Value.ownBlock] at hk,λx hx=>(by cases hx),by simp⟩
   have HEQ:Hid (q=match textF (l.length+1) (λ_=>none) [] ((l.map Prod.fst).map canT) [] with
    | .inl (r,e) => .inl ((hdT r).p,e)
    | .inr x => .inr x):=by
    show _=_;rw [HQ.out];show parseL (.inr (l.map Prod.fst))=_;unfold parseL;simp only [List.length_map];rfl
   obtain ⟨qt,hqt⟩ :∃qt,qt=textF (l.length+1) (λ_=>none) [] ((l.map Prod.fst).map canT) []:=⟨_,rfl⟩;have HE2:Hid ((∀r e,qt = .inl (r,e)->q = .inl ((hdT r).p,e))/\∀x,qt = .inr x->q = .inr x):=by
    have h5:=HEQ.out;rw [<- hqt] at h5;exact ⟨λr e he=>by rw [h5,he],λx he=>by rw [h5,he]⟩
   have HB2:Hid (Below w.heap.size w ((w1.alloc (.map #[] 0)).alloc (.cells #[.slice (some ⟨g,0,none⟩) l.length cp,.int .i64 0,.map (some w1.heap.size),.slice none 0 0,.slice none 0 0,.int .i64 0] 58))):=below_after (below_after HB0.out hB1) hB2;have HR2:Hid (((w1.alloc (.map #[] 0)).alloc (.cells #[.slice (some ⟨g,0,none⟩) l.length cp,.int .i64 0,.map (some w1.heap.size),.slice none 0 0,.slice none 0 0,.int .i64 0] 58)).heap[w.heap.size]? = some (.cells #[.slice none 0 0,.slice none 0 0] 27 (0,0))):=(hB2.block _ (by omega)).trans ((hB1.block w.heap.size (by rw [HSZ0.out];omega)).trans HE0.out);have HPT:Hid (PT (⟨g,0,l.length,cp,w1.heap.size,w1.heap.size,.slice none 0 0,λ_=>none,58⟩:Pc) (w1.heap.size+1) ((w1.alloc (.map #[] 0)).alloc (.cells #[.slice (some ⟨g,0,none⟩) l.length cp,.int .i64 0,.map (some w1.heap.size),.slice none 0 0,.slice none 0 0,.int .i64 0] 58)) [] ((l.map Prod.fst).map canT) []):=hPT;obtain ⟨E,hEd⟩ :∃E,E=edgesOf (entsOf (l.map Prod.fst)):=⟨_,rfl⟩;have HE:Hid (E.length<=10000):=by
    show _<=_;rw [hEd,edgesOf_len];omega
   have HGT:Hid (GT E ((l.map Prod.fst).map canT)):=λt ht=>by
    obtain ⟨u,hu,rfl⟩:=List.mem_map.1 ht;rw [hEd];exact stb_mk (hok u hu).1 (λr hr=>List.mem_flatMap.2 ⟨u,hu,hr⟩)
   have HGN:Hid (GN E (λ_=>none)):=λx s h=>by cases h
   have HQT:Hid (qt=textF (l.length+1) (λ_=>none) [] ((l.map Prod.fst).map canT) []):=hqt;obtain ⟨C0,hC0⟩ :∃C0:Pc,C0=(⟨g,0,l.length,cp,w1.heap.size,w1.heap.size,.slice none 0 0,λ_=>none,58⟩:Pc):=⟨_,rfl⟩;have HC0:Hid (C0.base=w1.heap.size/\C0.mb=w1.heap.size/\C0.n=l.length):=by rw [hC0];exact ⟨rfl,rfl,rfl⟩
   obtain ⟨W2,hW2⟩ :∃W2,W2=((w1.alloc (.map #[] 0)).alloc (.cells #[.slice (some ⟨g,0,none⟩) l.length cp,.int .i64 0,.map (some w1.heap.size),.slice none 0 0,.slice none 0 0,.int .i64 0] 58)):=⟨_,rfl⟩;have HST:Hid (∃(f:Nat) (rv:Value) (N:Nms) (rs:List RlV) (r:List Tok) (st:Sts),r.length<f/\textF f N (rs.map Prod.fst) r st=qt/\PT (C0.up rv N) (w1.heap.size+1) W2 rs r st/\GT E r/\GN E N):=by
    rw [hC0,hW2];exact ⟨l.length+1,.slice none 0 0,λ_=>none,[],_,[],by simp,HQT.out.symm,HPT.out,HGT.out,HGN.out⟩
   rw [<- hW2] at HB2 HR2;have HW2:Hid (W2=((w1.alloc (.map #[] 0)).alloc (.cells #[.slice (some ⟨g,0,none⟩) l.length cp,.int .i64 0,.map (some w1.heap.size),.slice none 0 0,.slice none 0 0,.int .i64 0] 58))):=hW2;clear h1 hown hown' hso hb hg hc hm hs ht hends hok hBm hB2 hP hmap hom him hPT HEQ HQ hqt HTOK hB1 hC0 hEd HPT HGT HGN HQT hec hsz2;rw [hW2] at HST HB2 HR2;clear hW2 HW2
   go_wp2_with fail
   go_loopw [] (λwr=>Hid (Below w1.heap.size ((w1.alloc (.map #[] 0)).alloc (.cells #[.slice (some ⟨g,0,none⟩) l.length cp,.int .i64 0,.map (some w1.heap.size),.slice none 0 0,.slice none 0 0,.int .i64 0] 58)) wr)/\Hid ((∃(x:Nat) (c':Pc) (X:Nat->Prop) (r:List Tok) (st:Sts),x≠0/\qt = .inl (r,((x:Nat):Int))/\Pa c' X (w1.heap.size+1) wr r st x)\/(∃(f:Nat) (rv:Value) (N:Nms) (rs:List RlV) (r:List Tok) (st:Sts),r.length<f/\textF f N (rs.map Prod.fst) r st=qt/\PT (C0.up rv N) (w1.heap.size+1) wr rs r st/\GT E r/\GN E N))) (λwr=>leftE C0.n wr (w1.heap.size+1))
   case atStart=>exact ⟨Below.refl _ _,.inr HST.out⟩
   case round =>
    obtain ⟨HBL,HX⟩:=hrel;have hR3:=(HBL.out.block w.heap.size (show w.heap.size<w1.heap.size by omega)).trans HR2.out;have HR3:Hid (wr.heap[w.heap.size]? = some (.cells #[.slice none 0 0,.slice none 0 0] 27 (0,0))):=hR3;have hlw:w.heap.size<wr.heap.size:=(Array.getElem?_eq_some_iff.1 hR3).1;have HB3:Hid (Below w.heap.size w wr):=HB2.out.trans (HBL.out.mono (by omega));rcases HX.out with ⟨x,c',X,r,st,hx,he,hp⟩ | ⟨f,rv,N,rs,r,st,hrf,htx,hpt,hgt,hgn⟩
    · obtain ⟨t,r',rfl⟩:=hp.ends.cons;have hx0:((x:Int)==0)=false:=by simp;omega
      have hx1:((x:Int) != 0)=true:=by simp;omega
      have HXN:Hid (((x:Nat):Int)≠0):=by show _≠_;omega
      have HQ3:Hid (q = .inl (t.p,((x:Nat):Int))):=HE2.out.1 _ _ he;have h3:=λW hW=>now_any c' X (w1.heap.size+1) W t r' st x (hp.below (w':=W) hW);have hPl:=hp.lt;have c5:=hp.dep.1;have d0:wr.cell? ⟨w.heap.size,0,none⟩=some (.slice none 0 0):=cell_of_row _ _ 0 _ _ _ hR3;have df0:wr.frozen? ⟨w.heap.size,0,none⟩=false:=frozen_of_row _ _ 0 _ _ hR3;have d1:wr.cell? ⟨w.heap.size,1,none⟩=some (.slice none 0 0):=cell_of_row _ _ 1 _ _ _ hR3;have df1:wr.frozen? ⟨w.heap.size,1,none⟩=false:=frozen_of_row _ _ 1 _ _ hR3;have HC5:Hid (∀W,Below wr.drew.heap.size wr.drew W->W.cell? ⟨w1.heap.size+1,5,none⟩=some (.int .i64 (x:Int))/\W.cell? ⟨w.heap.size,0,none⟩=some (.slice none 0 0)/\W.frozen? ⟨w.heap.size,0,none⟩=false/\W.cell? ⟨w.heap.size,1,none⟩=some (.slice none 0 0)/\W.frozen? ⟨w.heap.size,1,none⟩=false):=λW hW=>by
       have hk:Below wr.heap.size wr W:=(below_drewN' (Below.refl _ _) 1).trans hW;exact ⟨(hk.cell (p:=⟨_,_,none⟩) hPl).trans c5,(hk.cell (p:=⟨_,_,none⟩) hlw).trans d0,(World.frozen?_of_block (a:=⟨w.heap.size,0,none⟩) (hk.block _ hlw)).trans df0,(hk.cell (p:=⟨_,_,none⟩) hlw).trans d1,(World.frozen?_of_block (a:=⟨w.heap.size,1,none⟩) (hk.block _ hlw)).trans df1⟩
      have HC6:Hid (∀W,Below wr.drew.heap.size wr.drew W->((W.setCell ⟨w.heap.size,0,none⟩ (.slice none 0 0)).setCell ⟨w.heap.size,1,none⟩ (.slice none 0 0)).cell? ⟨w1.heap.size+1,5,none⟩=some (.int .i64 (x:Int))/\((W.setCell ⟨w.heap.size,0,none⟩ (.slice none 0 0)).setCell ⟨w.heap.size,1,none⟩ (.slice none 0 0)).cell? ⟨w.heap.size,0,none⟩=some (.slice none 0 0)/\((W.setCell ⟨w.heap.size,0,none⟩ (.slice none 0 0)).setCell ⟨w.heap.size,1,none⟩ (.slice none 0 0)).frozen? ⟨w.heap.size,0,none⟩=false/\((W.setCell ⟨w.heap.size,0,none⟩ (.slice none 0 0)).setCell ⟨w.heap.size,1,none⟩ (.slice none 0 0)).cell? ⟨w.heap.size,1,none⟩=some (.slice none 0 0)/\((W.setCell ⟨w.heap.size,0,none⟩ (.slice none 0 0)).setCell ⟨w.heap.size,1,none⟩ (.slice none 0 0)).frozen? ⟨w.heap.size,1,none⟩=false):=λW hW=>by
       have hk:Below wr.heap.size wr W:=(below_drewN' (Below.refl _ _) 1).trans hW;have hb:((W.setCell ⟨w.heap.size,0,none⟩ (.slice none 0 0)).setCell ⟨w.heap.size,1,none⟩ (.slice none 0 0)).heap[w.heap.size]? = some (.cells #[.slice none 0 0,.slice none 0 0] 27 (0,0)):=heap_set (heap_set ((hk.block _ hlw).trans HR3.out) _) _;refine ⟨?_,cell_of_row _ _ 0 _ _ _ hb,frozen_of_row _ _ 0 _ _ hb,cell_of_row _ _ 1 _ _ _ hb,frozen_of_row _ _ 1 _ _ hb⟩;rw [World.cell?_setCell_other _ _ _ _ (by simp only [ne_eq,Addr.mk.injEq];omega),World.cell?_setCell_other _ _ _ _ (by simp only [ne_eq,Addr.mk.injEq];omega)];exact (HC5.out W hW).1
      have H3:Hid (∀W,Below wr.heap.size wr W->Calls Tryz.prog 22 #[.pointer (some ⟨w1.heap.size+1,0,none⟩)] W λe w'=>∃va vc,e = .returned (tokV t (.slice va t.s.length vc))/\Below W.heap.size W w'):=λW hW=>(h3 W hW).mono (λe w' h=>by
       obtain ⟨v,h1,h2,h3⟩:=h;obtain ⟨va,vc,rfl⟩:=h2.slice;exact ⟨va,vc,h1,h3⟩)
      have hff:=λva vc W=>field_tok1 (.int .i64 t.k) (.int .i64 (t.p:Int)) (.string (strOfNums t.t)) (.slice va t.s.length vc) W;clear hx he hp hR3 HX h3;go_wp2
      go_region_held3 (λw'=>w'.cell? ⟨w1.heap.size+1,5,none⟩=some (.int .i64 (x:Int))/\w'.cell? ⟨w.heap.size,0,none⟩=some (.slice none 0 0)/\w'.frozen? ⟨w.heap.size,0,none⟩=false/\w'.cell? ⟨w.heap.size,1,none⟩=some (.slice none 0 0)/\w'.frozen? ⟨w.heap.size,1,none⟩=false) (first | exact HC5.out _ hB4 | exact HC6.out _ hB4 | go_keep) ((go_at_call 22;refine (H3.out _ (by exact below_drewN' (Below.refl _ _) 1)).mono ?_;rintro e w4 ⟨va,vc,rfl,hB4⟩;unfold tokV))
      have hk4:Below wr.heap.size wr w4:=(below_drewN' (Below.refl _ _) 1).trans hB4;have HR4:Hid (w4.heap[w.heap.size]? = some (.cells #[.slice none 0 0,.slice none 0 0] 27 (0,0))):=(hk4.block w.heap.size hlw).trans HR3.out;have HB4:Hid (Below w.heap.size w w4):=below_after HB3.out hk4;clear hB4 hk4;go_wp2;refine bodyPost_ret (results_row_tmp2 rfl _ _ w.heap.size 27 #[.slice none 0 0,.slice none 0 0] (0,0) _ rfl ?_ Tryz.underlying27 rfl (by kernel_rfl)) rfl ?_
      · exact heap_set (heap_set HR4.out _) _
      exact ⟨(HB4.out.setCell (by simp) _).setCell (by simp) _,.inl ⟨t.p,_,HQ3.out,HXN.out,rfl⟩⟩
    · obtain ⟨f,rfl⟩ :∃k,f=k+1:=⟨f-1,by omega⟩;obtain ⟨t,r',rfl⟩:=hpt.1.ends.cons;have hl0:leftE C0.n wr (w1.heap.size+1)=(t::r').length+1:=hpt.1.leftE;have c5:wr.cell? ⟨w1.heap.size+1,5,none⟩=some (.int .i64 0):=hpt.1.dep.1;have hPl:=hpt.1.lt;have h1:Calls Tryz.prog 22 #[.pointer (some ⟨w1.heap.size+1,0,none⟩)] wr λe w'=>∃va vc,e = .returned (tokV t (.slice va t.s.length vc))/\Below wr.heap.size wr w':=(now_any (C0.up rv N) _ (w1.heap.size+1) wr t r' st 0 hpt.1).mono (λe w' h=>by
       obtain ⟨v,h1,h2,h3⟩:=h;obtain ⟨va,vc,rfl⟩:=h2.slice;exact ⟨va,vc,h1,h3⟩)
      have hff:=λva vc W=>field_tok0 (.int .i64 t.k) (.int .i64 (t.p:Int)) (.string (strOfNums t.t)) (.slice va t.s.length vc) W;have HPT:Hid (PT (C0.up rv N) (w1.heap.size+1) wr rs (t::r') st):=hpt;have HTX:Hid (textF (f+1) N (rs.map Prod.fst) (t::r') st=qt):=htx;have HGT:Hid (GT E (t::r')):=hgt;have HGN:Hid (GN E N):=hgn;have HRF:Hid ((t::r').length<f+1):=hrf;clear hpt htx hgt hgn hrf hR3 HX;by_cases hk:t.k=4
      · have hk':(t.k != 4)=false:=by simpa using hk
        have HQ3:Hid (q = .inr (rs.map Prod.fst,st)):=HE2.out.2 _ (by rw [<- HTX.out];exact textF_end hk);clear hk
        go_wp2_with fail
        refine h1.mono ?_;rintro e w3 ⟨va,vc,rfl,hB4⟩;unfold tokV;clear h1;have HPT3:Hid (PT (C0.up rv N) (w1.heap.size+1) w3 rs (t::r') st):=HPT.out.below hB4;have hR3:w3.heap[w.heap.size]? = some (.cells #[.slice none 0 0,.slice none 0 0] 27 (0,0)):=(hB4.block w.heap.size hlw).trans HR3.out;have HR33:Hid (w3.heap[w.heap.size]? = some (.cells #[.slice none 0 0,.slice none 0 0] 27 (0,0))):=hR3;have HB33:Hid (Below w.heap.size w w3):=below_after HB3.out hB4;have c53:w3.cell? ⟨w1.heap.size+1,5,none⟩=some (.int .i64 0):=HPT3.out.1.dep.1;have hlw3:w.heap.size<w3.heap.size:=(Array.getElem?_eq_some_iff.1 hR3).1;clear hB4;have hbs:C0.base=w1.heap.size:=HC0.out.1;obtain ⟨p1,p2,p3,p4,p5⟩:=HPT3.out;have hPl3:=p1.lt;obtain ⟨cr,_,_⟩:=p1.rv;have cr':w3.cell? ⟨w1.heap.size+1,4,none⟩=some rv:=cr;obtain ⟨ad,capS,vs,cs,_,_,hl60,hownS,hss,_,_,_⟩:=p1.sets;obtain ⟨ra,rc,rfl⟩ :∃a cp,rv = .slice a rs.length cp:=by
         rcases p2.2 with ⟨e1,e2⟩ | ⟨g,cap,cur,e1,_⟩
         · exact ⟨none,0,by rw [show rv = .slice none 0 0 from e1,e2]⟩
         · exact ⟨_,_,e1⟩
        have hni:NoInt w3 w.heap.size:=λoff k x hx=>by
         simp only [World.cell?,hR3] at hx
         match off,hx with
         | 0,hx=>simp at hx
         | 1,hx=>simp at hx
         | n+2,hx=>simp at hx
        have hWr:Wr w.heap.size w3 ((w3.setCell ⟨w.heap.size,0,none⟩ (.slice ad st.length capS)).setCell ⟨w.heap.size,1,none⟩ (.slice ra rs.length rc)):=((Wr.refl _ w3).set 0 _).set 1 _;have hto:∀(Y:Nat->Prop),(∀k,Y k->k<w3.heap.size)->∀k,(Y k/\k≠w.heap.size)->((w3.setCell ⟨w.heap.size,0,none⟩ (.slice ad st.length capS)).setCell ⟨w.heap.size,1,none⟩ (.slice ra rs.length rc)).heap[k]? = w3.heap[k]? /\ k<((w3.setCell ⟨w.heap.size,0,none⟩ (.slice ad st.length capS)).setCell ⟨w.heap.size,1,none⟩ (.slice ra rs.length rc)).heap.size:=λY hY k hk=>⟨hWr.block k hk.2,by rw [hWr.size];exact hY k hk.1⟩;have HPG:Hid (PrgAt w.heap.size ((w3.setCell ⟨w.heap.size,0,none⟩ (.slice ad st.length capS)).setCell ⟨w.heap.size,1,none⟩ (.slice ra rs.length rc)) (.slice ad st.length capS) (.slice ra rs.length rc) rs st):=by
         refine ⟨⟨vs,own_block (own_mono hownS (by show w.heap.size<=C0.base;omega)) (λk hk=>hWr.block k (λq => ?_)),(hss.offN hni).to (hto _ (λk hk=>hk.1))⟩,own_block (own_mono p2 (by show w.heap.size<=C0.base;omega)) (λk hk=>hWr.block k (λq => ?_)),(p4.offN hni).to (hto _ (λk hk=>hk.1.1)),hl60,p5⟩
         · have h5:C0.base<=k:=(hownS.lt k hk).1;omega
         · have h5:C0.base<=k:=(p2.lt k hk).1;omega
        have d0:w3.cell? ⟨w.heap.size,0,none⟩=some (.slice none 0 0):=cell_of_row _ _ 0 _ _ _ hR3;have df0:w3.frozen? ⟨w.heap.size,0,none⟩=false:=frozen_of_row _ _ 0 _ _ hR3;have d1:w3.cell? ⟨w.heap.size,1,none⟩=some (.slice none 0 0):=cell_of_row _ _ 1 _ _ _ hR3;have df1:w3.frozen? ⟨w.heap.size,1,none⟩=false:=frozen_of_row _ _ 1 _ _ hR3;clear p1 p2 p3 p4 p5 cr hownS hss hni hWr hto hR3 hbs;go_wp2;refine bodyPost_ret (results_row_tmp2 rfl _ _ w.heap.size 27 #[.slice ad st.length capS,.slice ra rs.length rc] (0,0) _ rfl ?_ Tryz.underlying27 rfl (by kernel_rfl)) rfl ?_
        · exact heap_set (heap_set HR33.out _) _
        exact ⟨(HB33.out.setCell (by simp) _).setCell (by simp) _,.inr ⟨rs,st,_,_,HQ3.out,rfl,HPG.out⟩⟩
      · have hk':(t.k != 4)=true:=by simpa using hk
        have HK:Hid (t.k≠4):=hk;clear hk
        go_wp2_with fail
        refine h1.mono ?_;rintro e w3 ⟨va,vc,rfl,hB4⟩;unfold tokV;clear h1;have HPT3:Hid (PT (C0.up rv N) (w1.heap.size+1) w3 rs (t::r') st):=HPT.out.below hB4;have HBL3:Hid (Below w1.heap.size ((w1.alloc (.map #[] 0)).alloc (.cells #[.slice (some ⟨g,0,none⟩) l.length cp,.int .i64 0,.map (some w1.heap.size),.slice none 0 0,.slice none 0 0,.int .i64 0] 58)) w3):=HBL.out.trans (hB4.mono (by omega));have h2:=rentry_any (C0.up rv N) (w1.heap.size+1) w3 rs t r' st E HE.out HGT.out HGN.out HPT3.out (by show C0.base<=C0.mb;rw [HC0.out.1,HC0.out.2.1];exact Nat.le_refl _);obtain ⟨qs,hqs⟩ :∃qs,qs=senM (C0.up rv N).N (rs.map Prod.fst) (t::r') st:=⟨_,rfl⟩;rw [<- hqs] at h2;have HQS:Hid (senM N (rs.map Prod.fst) (t::r') st=qs):=hqs.symm;clear hqs hB4
        go_wp2_with fail
        refine h2.mono ?_;rintro e w4 ⟨rfl,hB5,hx⟩;clear h2;have HBL4:Hid (Below w1.heap.size ((w1.alloc (.map #[] 0)).alloc (.cells #[.slice (some ⟨g,0,none⟩) l.length cp,.int .i64 0,.map (some w1.heap.size),.slice none 0 0,.slice none 0 0,.int .i64 0] 58)) w4):=HBL3.out.trans (hB5.mono (by show w1.heap.size<=C0.base;rw [HC0.out.1];exact Nat.le_refl _));have HNX:Hid (leftE C0.n w4 (w1.heap.size+1)<(t::r').length+1/\((∃(x:Nat) (c':Pc) (X:Nat->Prop) (r:List Tok) (st:Sts),x≠0/\qt = .inl (r,((x:Nat):Int))/\Pa c' X (w1.heap.size+1) w4 r st x)\/(∃(f:Nat) (rv:Value) (N:Nms) (rs:List RlV) (r:List Tok) (st:Sts),r.length<f/\textF f N (rs.map Prod.fst) r st=qt/\PT (C0.up rv N) (w1.heap.size+1) w4 rs r st/\GT E r/\GN E N))):=by
         rcases hx with ⟨x,c',X,r2,st2,hx,he,hp⟩ | ⟨rv2,N2,rs2,r2,st2,he,hpt2,hgn2⟩
         · refine ⟨by rw [hp.leftE0 hx];omega,.inl ⟨x,c',X,r2,st2,hx,?_,hp⟩⟩;rw [<- HTX.out];exact textF_bad (ts:=t::r') HK.out (HQS.out.trans he)
         · have hle:=senM_left (ts:=t::r') HK.out (HQS.out.trans he);have h5:leftE C0.n w4 (w1.heap.size+1)=r2.length+1:=hpt2.1.leftE;have h6:=HRF.out;refine ⟨by rw [h5];omega,.inr ⟨f,rv2,N2,rs2,r2,st2,by omega,?_,hpt2,HGT.out.left (senM_leftL (ts:=t::r') HK.out (HQS.out.trans he)),hgn2⟩⟩;rw [<- HTX.out];exact (textF_on (ts:=t::r') HK.out (HQS.out.trans he)).symm
        clear hx hB5;go_wp2
        go_roundw
        case rel=>exact ⟨HBL4.out,HNX.out.2⟩
        case measure=>rw [hl0];exact HNX.out.1
set_option maxHeartbeats 4000000
set_option maxRecDepth 100000
def aw8:List Int:=115::101::116::32::97::32::61::32::91::97::45::122::93::32::45::32::91::120::93::59::32::107::101::101::112::32::97::32::47::32::97::42::59::[]
theorem aw8_parse:parseL (toksL 33 (ascU 0 aw8)) = .inr ([⟨false,⟨1,0,[]⟩,⟨3,0,[⟨1,0,[]⟩]⟩⟩],[[⟨97,119⟩,⟨121,122⟩]]):=by kernel_rfl
theorem aw8_byt:Byt aw8:=by intro c hc;simp [aw8] at hc;omega
theorem awake8_any (w:World) (hsv:SynV w):Calls Tryz.prog 8 #[] w λe w'=>e = .returned (.bool true)/\Below w.heap.size w w':=by
 have hcv:=Go.Lib.run_convert_bytes_const (P:=Tryz.prog) w 22 5 (aw8.map (Value.int .u8)).toArray 33 33 Tryz.underlying22 Tryz.underlying5;have hbl:=bytes_lit (w:=w) aw8 5 (33,34) 33 (Nat.le_refl _);have hB1:Below w.heap.size w (w.alloc (.cells (aw8.map (Value.int .u8)).toArray 5 (33,34))):=(Below.refl _ w).alloc (Nat.le_refl _) _;have htk:=parse_any8 aw8 aw8_byt (by decide) (ascU 0 aw8) (run_ascii (by intro c hc;simp [aw8] at hc;omega)) (some ⟨w.heap.size,0,none⟩) 33 (w.alloc (.cells (aw8.map (Value.int .u8)).toArray 5 (33,34))) (hsv.grown (World.grownBy_alloc _ _ none) (by simp)) (by rw [World.size_alloc];exact hbl);have e33:aw8.length=33:=rfl;rw [e33,aw8_parse] at htk;have HB1:Hid (Below w.heap.size w (w.alloc (.cells (aw8.map (Value.int .u8)).toArray 5 (33,34)))):=hB1;obtain ⟨W1,hW1⟩ :∃W1,W1=w.alloc (.cells (aw8.map (Value.int .u8)).toArray 5 (33,34)):=⟨_,rfl⟩;have hcv':(convert 22 22 (.slice (some ⟨w.heap.size,0,none⟩) 33 33)).run Tryz.prog (w.alloc (.cells (List.toArray (.int .u8 115 :: .int .u8 101 :: .int .u8 116 :: .int .u8 32 :: .int .u8 97 :: .int .u8 32 :: .int .u8 61 :: .int .u8 32 :: .int .u8 91 :: .int .u8 97 :: .int .u8 45 :: .int .u8 122 :: .int .u8 93 :: .int .u8 32 :: .int .u8 45 :: .int .u8 32 :: .int .u8 91 :: .int .u8 120 :: .int .u8 93 :: .int .u8 59 :: .int .u8 32 :: .int .u8 107 :: .int .u8 101 :: .int .u8 101 :: .int .u8 112 :: .int .u8 32 :: .int .u8 97 :: .int .u8 32 :: .int .u8 47 :: .int .u8 32 :: .int .u8 97 :: .int .u8 42 :: .int .u8 59::[])) 5)) = .ok (.slice (some ⟨w.heap.size,0,none⟩) 33 33) W1:=by rw [hW1];exact hcv
 rw [<- hW1] at htk HB1;clear hW1 hcv hbl hB1 e33;go_enter Tryz.func8,Tryz.ntmps8
 go_wp2_with fail
 refine htk.mono ?_;rintro e w2 ⟨hB2,(⟨a,x,h,_⟩ | ⟨rs,st,sv,rv,hl,rfl,hpg⟩)⟩
 · cases h
 · have hl:=Sum.inr.inj hl;obtain ⟨hl1,hl2⟩:=Prod.mk.inj hl;have hss:=hpg.sets;have hrr:=hpg.rules;rw [<- hl1] at hrr;rw [<- hl2] at hss;obtain ⟨sa,sc,rfl,hsc,hs⟩:=hss;obtain ⟨ra,rc,rfl,hrc,hr⟩:=hrr;obtain ⟨gs,os,x,rfl,hgs,s0,hx⟩:=hs 0 (by simp);obtain ⟨gr,or,zl,zr,rfl,hgr,c0,c1,c2,c3,c4,c5,c6,_⟩:=hr 0 (by simp);obtain ⟨xa,xc,rfl,_⟩:=hx;simp only [List.length_cons,List.length_nil,Nat.zero_add,List.getElem_cons_zero,Nat.add_zero,Nat.zero_mul] at s0 c4 hsc hrc ⊢;have hB:Below w.heap.size w w2:=HB1.out.trans (hB2.mono HB1.out.size);clear htk hcv' hs hr hpg hl hl1 hl2 c0 c1 c2 c3 c5 c6 hB2;go_wp2;go_ret;exact ⟨rfl,below_after hB (below_alloc _ _)⟩
end Go.Proofs.YtfdjchnckjgapaaGreatDoor
