/-
  S1Units S1Decode
-/
import Derived.RangeFuncNested
import Derived.RangeFuncBound
import Derived.RangeFuncCalls
import Derived.RangeFuncLeaves
import Derived.Shelf.Abstract
import Derived.Shelf.RegionOpen
import Derived.WalkKit
import Derived.OwnWalkIn
import Derived.TacticsInMore
import Derived.LoopNIn
import Derived.LoopIn
import Derived.RangeFuncBox
import Derived.Maps.OwnIn
import Derived.Test.YtfdjchnckjgapaaGreatDoorZ00
import Derived.WalkSpells
import Derived.Deep.AppendLies
namespace Go.Proofs.YtfdjchnckjgapaaGreatDoor.S1
set_option maxHeartbeats 2000000
set_option maxRecDepth 100000
open Go.RowKit Go.Shelf
set_option linter.unusedVariables false
attribute [local go_sem] Oper.semAt_some
def Own1 (B:Nat) (W:World) (k:Nat):Prop:=k=B\/∃n c,W.cell? ⟨B,0,none⟩=some (.slice (some ⟨k,0,none⟩) n c)
def Fit1 (B:Nat) (W:World):Prop:=B<W.heap.size/\∀k n c,W.cell? ⟨B,0,none⟩=some (.slice (some ⟨k,0,none⟩) n c)->k<W.heap.size
def Kp1 (n₀ B:Nat) (W W':World):Prop :=
 Below n₀ W W'/\(Fit1 B W->Fit1 B W'/\∀k cs t fr,W.heap[k]? = some (.cells cs t fr)->¬Own1 B W k->W'.heap[k]? = some (.cells cs t fr)/\¬Own1 B W' k)
theorem kp1_t {n₀ B:Nat} {X Y Z:World} (h:Kp1 n₀ B X Y) (k:Kp1 n₀ B Y Z):Kp1 n₀ B X Z :=
 ⟨h.1.trans k.1,λf=>⟨(k.2 (h.2 f).1).1,λb cs t fr e o=>(k.2 (h.2 f).1).2 b cs t fr ((h.2 f).2 b cs t fr e o).1 ((h.2 f).2 b cs t fr e o).2⟩⟩
theorem cell_same {W W':World} {a:Addr} (h:W'.heap[a.block]? = W.heap[a.block]?):W'.cell? a=W.cell? a:=World.cell?_of_block h
theorem kp1_grown {n₀ B:Nat} {W W':World} {row:Option Nat} (hg:W.grownBy W' row) (hr:∀r,row=some r->B<r/\n₀<=r/\∃o:Obj,W.heap[r]? = some o/\o.isCells=false) (hn:n₀<=W.heap.size):Kp1 n₀ B W W':=by
 refine ⟨(Below.refl n₀ W).grown hg hn (λk e=>(hr k e).2.1),λf => ?_⟩;have hB:W'.heap[B]? = W.heap[B]? := hg.block B f.1 (λe=>by have:=(hr B e.symm).1;omega);have hc:W'.cell? ⟨B,0,none⟩=W.cell? ⟨B,0,none⟩:=cell_same (a:=⟨B,0,none⟩) hB;refine ⟨⟨Nat.lt_of_lt_of_le f.1 hg.size,λk n c e => ?_⟩,λk cs t fr e o=>⟨?_,?_⟩⟩
 · rw [hc] at e;exact Nat.lt_of_lt_of_le (f.2 k n c e) hg.size
 · have hk:k<W.heap.size:=(Array.getElem?_eq_some_iff.1 e).1;rw [hg.block k hk (λq => ?_)]
   · exact e
   · obtain ⟨_,_,o',h1,h2⟩:=hr k q.symm;rw [e] at h1;cases h1;cases h2
 · intro o';apply o;rcases o' with h | ⟨n,c,h⟩
   · exact .inl h
   · exact .inr ⟨n,c,by rw [<- hc];exact h⟩
theorem kp1_alloc {n₀ B:Nat} (W:World) (o:Obj) (hn:n₀<=W.heap.size):Kp1 n₀ B W (W.alloc o) :=
 kp1_grown (World.grownBy_alloc W o none) (λr e=>by cases e) hn
theorem kp1_b {n₀ B:Nat} {w:World} (hn:n₀<=w.heap.size) (hB:B<w.heap.size):∀(W:World) (l:Nat) (o o':Obj),w.heap.size<=l->W.heap[l]? = some o->o.isCells=false->o.isWalk=false->Kp1 n₀ B W (W.putObj l o') :=
 λW l o o' hl ho hc _=>kp1_grown (grownBy_putObj' W l o') (λr e=>by cases e;exact ⟨by omega,by omega,o,ho,hc⟩) (by have:=(Array.getElem?_eq_some_iff.1 ho).1;omega)
theorem kp1_appended {W w1:World} {n₀ B:Nat} {t e:TypeId} {size:Nat} {v v':Value} {k m:Nat} {xs ys:List Value} {tmp:Obj}
 (hv:Boxed W B t v) (hte:t≠e) (hrow:W.ownsRow n₀ e size v k xs) (hn₀:n₀<=W.heap.size) (hB:n₀<=B)
 (hown':w1.ownsRow n₀ e size v' m ys) (hgrow:(W.alloc tmp).grownBy w1 v.ownBlock) (hat:v'.ownBlock=v.ownBlock\/v'.ownBlock=some (W.alloc tmp).heap.size):Kp1 n₀ B W (w1.setCell ⟨B,0,none⟩ v'):=by
 obtain ⟨h1,h2,h3,h4,h5⟩:=hv.appended hte hrow hn₀ hB hown' hgrow;refine ⟨h5,λf=>⟨⟨h2.lt,λj n c q => ?_⟩,λj cs t' fr q o=>⟨?_,?_⟩⟩⟩
 · rw [h2.cell] at q;obtain rfl:v' = .slice (some ⟨j,0,none⟩) n c:=by simpa using q
   have:=(hown'.lt j rfl).2;simpa [World.setCell] using this
 · have hj:j<W.heap.size:=(Array.getElem?_eq_some_iff.1 q).1;have hne:j≠B:=λe=>o (.inl e);rw [Below.heap_setCell w1 ⟨B,0,none⟩ v' j hne,hgrow.block j (by simp;omega) (λe' => ?_),Below.heap_alloc W tmp j hj]
   · exact q
   · rcases hrow.2 with ⟨rfl,_⟩ | ⟨g,cap,cur,rfl,_⟩
     · simp [Value.ownBlock] at e'
     · obtain rfl:j=g:=by simpa [Value.ownBlock] using e'
       exact o (.inr ⟨_,_,hv.cell⟩)
 · have hj:j<W.heap.size:=(Array.getElem?_eq_some_iff.1 q).1;rintro (e' | ⟨n,c,e'⟩)
   · exact o (.inl e')
   · rw [h2.cell] at e';obtain rfl:v' = .slice (some ⟨j,0,none⟩) n c:=by simpa using e'
     rcases hat with q' | q'
     · rcases hrow.2 with ⟨rfl,_⟩ | ⟨g,cap,cur,rfl,_⟩
       · simp [Value.ownBlock] at q'
       · obtain rfl:j=g:=by simpa [Value.ownBlock] using q'
         exact o (.inr ⟨_,_,hv.cell⟩)
     · simp [Value.ownBlock] at q';omega
def encU (u:U):Array Value:=#[.agg #[.int .i64 u.r,.int .i64 (u.p:Int),.int .i64 (u.w:Int),.bool u.bad]]
def BytesAt (n₀:Nat) (W:World) (sv:Value) (l:List Int):Prop :=
 (∃a cap,sv = .slice a 0 cap/\l=[])\/∃b off cap,sv = .slice (some ⟨b,off,none⟩) l.length cap/\l.length<=cap/\b<n₀/\∀j,j<l.length->W.cell? ⟨b,off+j,none⟩=some (.int .u8 (l[j]?.getD 0))
theorem BytesAt.below {n₀:Nat} {X Y:World} (h:Below n₀ X Y) {sv:Value} {l:List Int}:BytesAt n₀ X sv l->BytesAt n₀ Y sv l
 | .inl e => .inl e
 | .inr ⟨b,off,cap,e,hl,hb,hc⟩ => .inr ⟨b,off,cap,e,hl,hb,λj hj=>(h.cell (p:=⟨b,off+j,none⟩) hb).trans (hc j hj)⟩
theorem point_at (zs:List Int) (hby:Byt zs) (hlen:zs.length<=65536) (p:Nat) (h:p<zs.length) (b off cap len:Nat) (hl:len=zs.length-p) (w:World) (hc:∀j,j<zs.length->w.cell? ⟨b,off+j,none⟩=some (.int .u8 (zs[j]?.getD 0))) :
 Calls Tryz.prog 107 #[.slice (some ⟨b,off+p,none⟩) len cap] w λe w'=>e = .returned (.tuple #[.int .i64 (ptR (zs.drop p)).1,.int .i64 ((ptR (zs.drop p)).2:Int)])/\w=w':=by
 have e:len=(zs.drop p).length:=by rw [List.length_drop];exact hl
 rw [e];refine point_any (zs.drop p) (λc hc=>hby c (List.mem_of_mem_drop hc)) (by rw [List.length_drop];omega) (by rw [List.length_drop];omega) b (off+p) cap w (λj hj => ?_);rw [List.length_drop] at hj;have:=hc (p+j) (by omega);rw [<- Nat.add_assoc] at this;rw [this,List.getElem?_drop]
theorem unit_of {zs:List Int} (hby:Byt zs) {p:Nat} (h:p<zs.length) {r:Int} {wd:Nat} (hp:ptR (zs.drop p)=(r,wd)):unitAt zs p=if 0<wd then ⟨r,p,wd,false⟩ else ⟨65533,p,1,true⟩:=by
 have e:=unP_drop hby h;unfold unP at e;rw [hp] at e;unfold unitAt;by_cases q:0<wd
 · rw [if_pos q] at e ⊢;rw [<- e]
 · rw [if_neg q] at e ⊢;rw [<- e]
theorem heap_new (w:World) (o:Obj):(w.alloc o).heap[w.heap.size]? = some o:=World.alloc_heap_new w o
theorem not_own_new {B:Nat} {W:World} (h:Fit1 B W) (o:Obj):¬Own1 B (W.alloc o) W.heap.size:=by
 have hc:(W.alloc o).cell? ⟨B,0,none⟩=W.cell? ⟨B,0,none⟩:=cell_same (a:=⟨B,0,none⟩) (Below.heap_alloc W o B h.1);rintro (e | ⟨n,c,e⟩)
 · have:=h.1;omega
 · rw [hc] at e;have:=h.2 _ _ _ e;omega
theorem BytesAt.mono {n₀ n₁:Nat} {X:World} {sv:Value} {l:List Int} (h:BytesAt n₀ X sv l) (hn:n₀<=n₁):BytesAt n₁ X sv l:=match h with
 | .inl e => .inl e
 | .inr ⟨b,off,cap,e,hl,hb,hc⟩ => .inr ⟨b,off,cap,e,hl,Nat.lt_of_lt_of_le hb hn,hc⟩
def Lies (B:Nat) (W:World) (k:Nat) (cs:Array Value) (t:TypeId):Prop:=W.heap[k]? = some (.cells cs t (0,0))/\¬Own1 B W k
theorem Lies.kp {n₀ B:Nat} {W W':World} {k:Nat} {cs:Array Value} {t:TypeId} (h:Lies B W k cs t) (hf:Fit1 B W) (hk:Kp1 n₀ B W W'):Lies B W' k cs t:=(hk.2 hf).2 k cs t (0,0) h.1 h.2
theorem Lies.cell {B:Nat} {W:World} {k:Nat} {cs:Array Value} {t:TypeId} (h:Lies B W k cs t) (j:Nat):W.cell? ⟨k,j,none⟩=cs[j]? := cell_of_row W k j cs t (0,0) h.1
theorem Lies.lt {B:Nat} {W:World} {k:Nat} {cs:Array Value} {t:TypeId} (h:Lies B W k cs t):k<W.heap.size:=(Array.getElem?_eq_some_iff.1 h.1).1
theorem width_behind {n₀ B:Nat} {W W':World} {cs:Array Value} {t:TypeId} (hf:Fit1 B W) (hn:n₀<=W.heap.size) (hk:Kp1 n₀ B (W.alloc (.cells cs t)) W'):Fit1 B W'/\∀j,W'.cell? ⟨W.heap.size,j,none⟩=cs[j]? := by
 have h1:=(kp1_alloc (n₀:=n₀) W (.cells cs t) hn).2 hf;obtain ⟨h2,h3⟩:=hk.2 h1.1;refine ⟨h2,λj => ?_⟩;have h4:=(h3 W.heap.size cs t (0,0) (heap_new W _) (not_own_new hf _)).1;exact cell_of_row W' W.heap.size j cs t (0,0) h4
theorem units1_in (n:Nat) (hn:1<=n) (l Bs n₀ B b off cap:Nat) (zs:List Int) (hby:Byt zs) (hlen:zs.length<=65536) (hcap:zs.length<=cap) (hb:b<n₀) (J Jx:List U->World->Prop)
 (hY:∀pre x W1,J pre W1->pre.length<zs.length->YieldAt Fence.wide (n-1) Tryz.prog l (encU x) W1 λe W' =>
  (e = .returned (.bool true)/\J (pre++[x]) W'/\Kp1 n₀ B W1 W')\/(e = .returned (.bool false)/\Jx (pre++[x]) W'))
 (W:World) (hn₀:n₀<=W.heap.size) (hJ:AbidesFrom W.heap.size J) (hf:Fit1 B W) (hBc:Lies B W Bs #[.slice (some ⟨b,off,none⟩) zs.length cap] 22) (hc:∀j,j<zs.length->W.cell? ⟨b,off+j,none⟩=some (.int .u8 (zs[j]?.getD 0))) (h0:J [] W) :
 CallsIn Fence.wide n Tryz.prog 106 #[.func (.yield l) #[] #[],.pointer (some ⟨Bs,0,none⟩)] W λe W'=>(∃v,e = .returned v) /\
  ((∃ys,Run zs 0 ys zs.length/\J ys W')\/(∃pre,(∃q,Run zs 0 pre q)/\Jx pre W')):=by
 refine callsIn_of_wp Tryz.func106 rfl trivial ?_ rfl;simp only [Tryz.ntmps106,List.size_toArray,List.length_cons,List.length_nil,Nat.reduceAdd,Nat.reduceSub,Array.replicate_succ,Array.replicate_zero,List.push_toArray,List.append_toArray,List.nil_append,List.cons_append];have HBc:Hid (Lies B W Bs #[.slice (some ⟨b,off,none⟩) zs.length cap] 22):=hBc;clear hBc
 gi_wp2
 gi_loopw [3] (λi wr=>∃(pre:List U) (p:Nat),Run zs 0 pre p/\i = .int .i64 p/\J pre wr/\Below n₀ W wr/\Fit1 B wr/\Lies B wr Bs #[.slice (some ⟨b,off,none⟩) zs.length cap] 22)
  (λi _=>zs.length-(intOf i).toNat)
 case atStart=>exact ⟨[],0,rfl,rfl,h0,Below.refl _ _,hf,HBc.out⟩
 case round =>
  obtain ⟨pre,p,hrun,rfl,hJs,hnx,hfx,hBl⟩:=hrel;have hle:=Run.le hrun (Nat.zero_le _);have hBx:wr.cell? ⟨Bs,0,none⟩=some (.slice (some ⟨b,off,none⟩) zs.length cap):=hBl.cell 0;have hBw:=hBl.lt;have HBl:Hid (Lies B wr Bs #[.slice (some ⟨b,off,none⟩) zs.length cap] 22):=hBl;clear hBl;by_cases hlt:p<zs.length
  · obtain ⟨r,wd,hpt⟩ :∃r wd,ptR (zs.drop p)=(r,wd):=⟨_,_,rfl⟩;have hu:=unit_of hby hlt hpt;have HU:Hid (unitAt zs p=if 0<wd then ⟨r,p,wd,false⟩ else ⟨65533,p,1,true⟩):=hu;have hcx:∀j,j<zs.length->wr.cell? ⟨b,off+j,none⟩=some (.int .u8 (zs[j]?.getD 0)):=λj hj=>(hnx.cell (p:=⟨b,off+j,none⟩) hb).trans (hc j hj);have hbs:=hnx.size;have HP:Hid (∀cs len,len=zs.length-p->Calls Tryz.prog 107 #[.slice (some ⟨b,off+p,none⟩) len (cap-p)] (wr.alloc (.cells cs 83)) λe w'=>e = .returned (.tuple #[.int .i64 r,.int .i64 (wd:Int)])/\wr.alloc (.cells cs 83)=w'):=by
     intro cs len hl;have:=point_at zs hby hlen p hlt b off (cap-p) len hl (wr.alloc (.cells cs 83)) (λj hj=>by
      rw [<- hcx j hj];exact cell_same (a:=⟨b,off+j,none⟩) (Below.heap_alloc wr _ b (by omega)))
     rw [hpt] at this;exact this
    have hwu:=unitAt_w hlt;rw [hu] at hwu;have hrun':=hrun.snoc hlt;rw [hu] at hrun';clear hu hpt;by_cases hw0:0<wd
    · rw [if_pos hw0] at hwu hrun';have hw1:(0:Int)<(wd:Int):=by omega
      obtain ⟨fn,tmps,assign,body,hy,hR⟩:=hY pre ⟨r,p,wd,false⟩ (wr.alloc (.cells #[.int .i64 r,.int .i64 (p:Int),.int .i64 (wd:Int),.bool false] 83)) (hJ _ _ _ none hJs (World.grownBy_alloc _ _ _) (λr e=>by cases e)) (by omega)
      dsimp only [encU] at hy
      dsimp only at hwu hrun'
      clear hcx hc;have hBx2:∀o,(wr.alloc o).cell? ⟨Bs,0,none⟩=some (.slice (some ⟨b,off,none⟩) zs.length cap):=λo=>(cell_same (a:=⟨Bs,0,none⟩) (Below.heap_alloc wr o Bs (by omega))).trans hBx
      gi_wp2_with (refine ⟨trivial,?_⟩;gi_at_call 107;refine (callsIn_wide.2 (HP.out _ _ (by omega))).mono ?_;rintro e w' ⟨rfl,rfl⟩)
      refine hR.mono ?_;rintro e W3 (⟨rfl,hJ3,hk3⟩ | ⟨rfl,hJx3⟩)
      · obtain ⟨hf3,hcell⟩:=width_behind hfx (by omega) hk3;have HB3:=(HBl.out.kp hfx (kp1_alloc (n₀:=n₀) wr _ (by omega))).kp ((kp1_alloc (n₀:=n₀) wr _ (by omega)).2 hfx).1 hk3;have HB3':Hid (Lies B W3 Bs #[.slice (some ⟨b,off,none⟩) zs.length cap] 22):=HB3;clear HB3;have hc2:W3.cell? ⟨wr.heap.size,2,none⟩=some (.int .i64 ((wd:Int))):=hcell 2;have hB3:Below n₀ W W3:=(hnx.alloc (by omega) _).trans hk3.1;clear hcell hR hy HP
        gi_wp2
        go_roundw
        case rel=>exact ⟨_,p+wd,hrun',by go_num,hJ3,hB3,hf3,HB3'.out⟩
        case measure=>simp [intOf];omega
      · gi_wp2
        refine bodyPost_ret (results_none rfl _ _ _) rfl ?_;exact ⟨⟨_,rfl⟩,.inr ⟨_,⟨_,hrun'⟩,hJx3⟩⟩
    · rw [if_neg hw0] at hwu hrun';obtain rfl:wd=0:=by omega
      obtain ⟨fn,tmps,assign,body,hy,hR⟩:=hY pre ⟨65533,p,1,true⟩ (wr.alloc (.cells #[.int .i64 65533,.int .i64 (p:Int),.int .i64 1,.bool true] 83)) (hJ _ _ _ none hJs (World.grownBy_alloc _ _ _) (λr e=>by cases e)) (by omega)
      dsimp only [encU] at hy
      change Sem.run _ (Instr.yield l #[.agg #[.int .i64 65533,.int .i64 (p:Int),.int .i64 1,.bool true]]) _=_ at hy
      dsimp only at hwu hrun'
      clear hcx hc;have hBx2:∀o,(wr.alloc o).cell? ⟨Bs,0,none⟩=some (.slice (some ⟨b,off,none⟩) zs.length cap):=λo=>(cell_same (a:=⟨Bs,0,none⟩) (Below.heap_alloc wr o Bs (by omega))).trans hBx
      gi_wp2_with (refine ⟨trivial,?_⟩;gi_at_call 107;refine (callsIn_wide.2 (HP.out _ _ (by omega))).mono ?_;rintro e w' ⟨rfl,rfl⟩)
      refine hR.mono ?_;rintro e W3 (⟨rfl,hJ3,hk3⟩ | ⟨rfl,hJx3⟩)
      · obtain ⟨hf3,hcell⟩:=width_behind hfx (by omega) hk3;have HB3:=(HBl.out.kp hfx (kp1_alloc (n₀:=n₀) wr _ (by omega))).kp ((kp1_alloc (n₀:=n₀) wr _ (by omega)).2 hfx).1 hk3;have HB3':Hid (Lies B W3 Bs #[.slice (some ⟨b,off,none⟩) zs.length cap] 22):=HB3;clear HB3;have hc2:W3.cell? ⟨wr.heap.size,2,none⟩=some (.int .i64 (1)):=hcell 2;have hB3:Below n₀ W W3:=(hnx.alloc (by omega) _).trans hk3.1;clear hcell hR hy HP
        gi_wp2
        go_roundw
        case rel=>exact ⟨_,p+1,hrun',by go_num,hJ3,hB3,hf3,HB3'.out⟩
        case measure=>simp [intOf];omega
      · gi_wp2
        refine bodyPost_ret (results_none rfl _ _ _) rfl ?_;exact ⟨⟨_,rfl⟩,.inr ⟨_,⟨_,hrun'⟩,hJx3⟩⟩
  · gi_wp2
    go_end0
    have e:p=zs.length:=by omega
    subst e;exact ⟨⟨_,rfl⟩,.inl ⟨_,hrun,hJs⟩⟩
theorem units1_nil_in (n:Nat) (l Bs:Nat) (a:Option Addr) (cap:Nat) (J:List U->World->Prop) (W:World) (hBc:W.cell? ⟨Bs,0,none⟩=some (.slice a 0 cap)) (h0:J [] W) :
 CallsIn Fence.wide n Tryz.prog 106 #[.func (.yield l) #[] #[],.pointer (some ⟨Bs,0,none⟩)] W λe W'=>(∃v,e = .returned v)/\J [] W':=by
 refine callsIn_of_wp Tryz.func106 rfl trivial ?_ rfl;simp only [Tryz.ntmps106,List.size_toArray,List.length_cons,List.length_nil,Nat.reduceAdd,Nat.reduceSub,Array.replicate_succ,Array.replicate_zero,List.push_toArray,List.append_toArray,List.nil_append,List.cons_append]
 gi_wp2
 gi_loopw [3] (λi wr=>i = .int .i64 0/\wr=W) (λ_ _=>0)
 case atStart=>exact ⟨rfl,rfl⟩
 case round =>
  obtain ⟨rfl,rfl⟩:=hrel
  gi_wp2
  go_end0
  exact ⟨⟨_,rfl⟩,h0⟩
theorem units_in (n:Nat) (a:Option Addr) (len cap:Nat) (w:World) :
 CallsIn Fence.wide n Tryz.prog 69 #[.slice a len cap] w λe w'=>e = .returned (.func (.func 106) #[] #[.pointer (some ⟨w.heap.size,0,none⟩)])/\w.alloc (.cells #[.slice a len cap] 22)=w':=by
 refine callsIn_of_wp Tryz.func69 rfl trivial ?_ rfl;simp only [Tryz.ntmps69,List.size_toArray,List.length_cons,List.length_nil,Nat.reduceAdd,Nat.reduceSub,Array.replicate_succ,Array.replicate_zero,List.push_toArray,List.append_toArray,List.nil_append,List.cons_append]
 gi_wp2
 go_ret;exact ⟨rfl,rfl⟩
theorem units_stops (n:Nat) (hn:1<=n) (Bs n₀ B:Nat) (sv:Value) (zs:List Int) (hby:Byt zs) (hlen:zs.length<=65536) (w:World) (hn₀:n₀<=w.heap.size) (hf:Fit1 B w)
 (hc:Lies B w Bs #[sv] 22) (hI:BytesAt n₀ w sv zs) :
 SeqStopsK Fence.wide n Tryz.prog 106 #[.pointer (some ⟨Bs,0,none⟩)] encU (Kp1 n₀ B) (λys=>Run zs 0 ys zs.length) (λpre=>∃q,Run zs 0 pre q) zs.length w:=λl J Jx W hW hJ _ hY h0=>by
 have e:W.cell? ⟨B,0,none⟩=w.cell? ⟨B,0,none⟩:=hW.cell (p:=⟨B,0,none⟩) hf.1;have hc':Lies B W Bs #[sv] 22:=⟨(hW.block Bs hc.lt).trans hc.1,λo=>hc.2 (o.elim .inl λ⟨n,c,h⟩ => .inr ⟨n,c,by rw [<- e];exact h⟩)⟩;have hf':Fit1 B W:=by
  exact ⟨Nat.lt_of_lt_of_le hf.1 hW.size,λk n c h=>Nat.lt_of_lt_of_le (hf.2 k n c (by rw [<- e];exact h)) hW.size⟩
 rcases hI.below (hW.mono hn₀) with ⟨a,cap,rfl,rfl⟩ | ⟨b,off,cap,rfl,hl,hb,hcs⟩
 · exact (units1_nil_in n l Bs a cap J W (hc'.cell 0) h0).mono λe W' ⟨he,hj⟩=>⟨he,.inl ⟨[],(rfl:Run [] 0 [] 0),hj⟩⟩
 · exact units1_in n hn l Bs n₀ B b off cap zs hby hlen hl hb J Jx hY W (Nat.le_trans hn₀ hW.size) hJ hf' hc' hcs h0
set_option maxHeartbeats 4000000
set_option maxRecDepth 100000
attribute [local go_sem] Oper.semAt_some
theorem Tryz.infoUnit:(Tryz.prog.info? 83).map (λi=>(i.zero,i.size,i.bytes))=some (some (.agg #[.int .i64 0,.int .i64 0,.int .i64 0,.bool false]),4,32):=by kernel_rfl
def cellsU (u:U):List Value:=[.int .i64 u.r,.int .i64 (u.p:Int),.int .i64 (u.w:Int),.bool u.bad]
def cellsUs (us:List U):List Value:=us.flatMap cellsU
theorem cellsUs_snoc (us:List U) (u:U):cellsUs (us++[u])=cellsUs us++cellsU u:=by simp [cellsUs]
theorem decode_in (n:Nat) (hn:3<=n) (sv:Value) (a:Option Addr) (len cap:Nat) (hsv:sv = .slice a len cap) (zs:List Int) (hby:Byt zs) (hlen:zs.length<=65536) (w:World) (hI:BytesAt w.heap.size w sv zs) :
 CallsIn Fence.wide n Tryz.prog 34 #[sv] w λe W'=>∃v us,e = .returned v/\Run zs 0 us zs.length/\W'.ownsRow w.heap.size 83 4 v us.length (cellsUs us)/\Below w.heap.size w W':=by
 subst hsv;have h1:1<=n:=by omega
 obtain ⟨i0,hi,hz0,hz1,hz2⟩:=info_parts Tryz.infoUnit;refine callsIn_of_wp_marks Tryz.func34 rfl trivial ?_ rfl;simp only [Tryz.ntmps34,List.size_toArray,List.length_cons,List.length_nil,Nat.reduceAdd,Nat.reduceSub,Array.replicate_succ,Array.replicate_zero,List.push_toArray,List.append_toArray,List.nil_append,List.cons_append]
 gi_wp2_with (refine ⟨trivial,?_⟩;gi_at_call 69;refine (units_in (n-1) _ _ _ _).mono ?_;rintro e w' ⟨rfl,rfl⟩)
 have bO:=Boxed.new w 73 (.slice none 0 0);have bN:=Boxed.new (w.alloc (.cells #[.slice none 0 0] 73)) 22 (.slice a len cap);rw [World.size_alloc] at bN;have hB0:Below w.heap.size w ((w.alloc (.cells #[.slice none 0 0] 73)).alloc (.cells #[.slice a len cap] 22)):=((Below.refl _ w).alloc (Nat.le_refl _) _).alloc (by simp) _;have hsz:((w.alloc (.cells #[.slice none 0 0] 73)).alloc (.cells #[.slice a len cap] 22)).heap.size=w.heap.size+2:=by simp
 have bO2:=bO.alloc (.cells #[.slice a len cap] 22);obtain ⟨W0,hW0⟩ :∃W0,(w.alloc (.cells #[.slice none 0 0] 73)).alloc (.cells #[.slice a len cap] 22)=W0:=⟨_,rfl⟩;rw [hW0] at bO2 bN hB0 hsz ⊢;clear hW0 bO;have hfit:Fit1 w.heap.size W0:=⟨bO2.lt,λk n c h=>by rw [bO2.cell] at h;simp at h⟩;have hlies:Lies w.heap.size W0 (w.heap.size+1) #[.slice a len cap] 22:=⟨bN,λo=>by
  rcases o with h | ⟨n,c,h⟩
  · omega
  · rw [bO2.cell] at h;simp at h⟩
 refine wpIn_rangeFunc_ownH rfl h1 (gf:=106) (lb:=#[.pointer (some ⟨w.heap.size+1,0,none⟩)]) rfl trivial (enters_of Tryz.func106 (by kernel_rfl) rfl)
  (units_stops (n-1) (by omega) (w.heap.size+1) w.heap.size w.heap.size (.slice a len cap) zs hby hlen W0 (by omega) hfit hlies (hI.below hB0)) kp1_t (kp1_b (by omega) (by omega)) (Below.refl _ _) (λ_=>rfl)
  (λpre W=>(∃v,Boxed W w.heap.size 73 v/\W.ownsRow w.heap.size 83 4 v pre.length (cellsUs pre)/\True)/\Below w.heap.size w W)
  (λ_ _ _=>False)
  (OwnFrom.and (Own.from (holdsRow_own w.heap.size w.heap.size 73 83 4 (λpre:List U=>pre.length) (λpre=>cellsUs pre) (λ_ _=>True)) _) (ownFrom_below (Nat.le_refl _) (by omega)))
  (λ_ _ _ _ _ hs _ _=>hs)
  ⟨⟨_,bO2,World.ownsRow_nil _ _ _ _,trivial⟩,hB0⟩
  (λx a' W=>∃Bx,W.heap[Bx]? = some (.cells (cellsU x).toArray 83 (0,0))/\a'={ tmps:=#[.slice a len cap,undef,.slice none 0 0,.pointer (some ⟨w.heap.size,0,none⟩),.pointer (some ⟨Bx,0,none⟩),.slice a len cap,.func (.func 106) #[] #[.pointer (some ⟨w.heap.size+1,0,none⟩)],.agg #[.int .i64 x.r,.int .i64 (x.p:Int),.int .i64 (x.w:Int),.bool x.bad],undef,undef,undef,undef,undef],defers:=[] })
  (λx a' _ X Y row hs hg hr=>by
   obtain ⟨Bx,h1,h3⟩:=hs;refine ⟨Bx,(hg.block Bx (Array.getElem?_eq_some_iff.1 h1).1 (λe => ?_)).trans h1,h3⟩;obtain ⟨_,o,h4,h5⟩:=hr Bx e.symm;rw [h1] at h4;cases h4;cases h5)
  ?assign ?body ?done ?stop
 case assign =>
  rintro l pre x W K ⟨⟨v,hv,hrow,_⟩,hB⟩ hK;unfold encU
  gi_wp2
  exact hK _ _ ((KeepsOthers.alloc _ _).from _) (kp1_alloc _ _ hB.size) ⟨⟨v,hv.alloc _,hrow.alloc _,trivial⟩,hB.alloc hB.size _⟩ ⟨W.heap.size,heap_new W _,rfl⟩
 case body =>
  rintro l pre x a' W hl _ ⟨⟨v,hv,hrow,_⟩,hB⟩ ⟨Bx,hBx,rfl⟩ hlt;have hc:=hv.cell;have hbs:=hB.size;have c0:W.cell? ⟨Bx,0,none⟩=some (.int .i64 x.r):=cell_of_row W Bx 0 _ _ _ hBx;have c1:W.cell? ⟨Bx,1,none⟩=some (.int .i64 (x.p:Int)):=cell_of_row W Bx 1 _ _ _ hBx;have c2:W.cell? ⟨Bx,2,none⟩=some (.int .i64 (x.w:Int)):=cell_of_row W Bx 2 _ _ _ hBx;have c3:W.cell? ⟨Bx,3,none⟩=some (.bool x.bad):=cell_of_row W Bx 3 _ _ _ hBx
  gi_wp2_with (gi_at_builtin;go_must (refine wpListIn_append_own_at _ rfl _ _ 73 rfl w.heap.size 83 i0 (.agg #[.int .i64 0,.int .i64 0,.int .i64 0,.bool false]) 4 32 Tryz.underlying73 hi hz0 hz1 hz2 rfl (by decide) _ _ _ rfl (hrow.alloc _) ⟨W.heap.size,0,none⟩ 1 1 (cellsU x) rfl rfl (World.news_of_block (heap_new _ _)) (by simp [cellsU,Value.oneCell']) (by unfold maxLen;omega) (by omega) (by simp;omega) ?_);intro v' w1 hown' hgrow hnil hat;obtain ⟨g',cap',rfl⟩:=ownsRow_succ hown';have hkp:=kp1_appended hv (by decide) hrow hbs (Nat.le_refl _) hown' hgrow hat;obtain ⟨hv1,hv2,hr2,hk2,hb2⟩:=hv.appended (by decide) hrow hbs (Nat.le_refl _) hown' hgrow;have hc1:=hv1.cell;have hf1:=hv1.frozen)
  exact ⟨hk2.from _,hkp,⟨_,hv2,by rw [cellsUs_snoc];simpa using hr2,trivial⟩,hB.trans hb2⟩
 case done =>
  rintro D ys W hD hrun ⟨⟨v,hv,hrow,_⟩,hB⟩ hK;have hc:=hv.cell
  gi_wp2
  refine ⟨by simp,.inl ⟨_,_,rfl,run_takeDeferred hK,?_⟩⟩;exact ⟨_,results_tmp rfl _ _ _,v,ys,rfl,hrun,ownsRow_putObj hrow _ hK rfl,hB.trans (belowK_b (w:=w) (Nat.le_refl _) W D _ _ (by omega) hK rfl rfl)⟩
 case stop =>
  rintro D c pre W _ _ h _;exact h.elim
end Go.Proofs.YtfdjchnckjgapaaGreatDoor.S1
