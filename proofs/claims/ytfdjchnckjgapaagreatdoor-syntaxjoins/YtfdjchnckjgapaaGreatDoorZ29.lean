/-
  RPartP
-/
import Derived.Test.YtfdjchnckjgapaaGreatDoorZ28
namespace Go.Proofs.YtfdjchnckjgapaaGreatDoor
set_option maxHeartbeats 40000000
set_option maxRecDepth 100000
open Go.RowKit Go.Shelf S1
set_option linter.unusedVariables false
def REx (q:NR Nd) (n:Nd) (r:List Tok) (st:Sts) (x:Nat):Prop:=(x≠0/\q = .inl (r,((x:Nat):Int)))\/(x=0/\q = .inr (n,r,st))
def RAg (q:NR Nd) (n:Nd) (r:List Tok) (st:Sts) (x:Nat):Prop:=(x≠0/\q = .inl (r,((x:Nat):Int)))\/(x=0/\q = .inr (n,r,st))\/(x=6/\(hdT r).k=1/\∃m st',q = .inr (m,r,st'))
def RNA (c:Pc) (X:Nat->Prop) (P:Nat) (G:Nd->List Tok->Sts->Nat->Prop) (w:World) (e:Ending) (w':World):Prop :=
 ∃n z x r st,e = .returned (ndV n z)/\KdX (fun k=>w.heap.size<=k/\Im X w' P k) w' z n.kids/\SgOk n/\Pa c X P w' r st x/\Fr w.heap.size P w w'/\G n r st x
def RNFn (g:Nat) (c:Pc) (P:Nat) (ts:List Tok) (st:Sts) (dp:Nat) (G:Nd->List Tok->Sts->Nat->Prop):Prop:=∀(X:Nat->Prop) (w:World),Pa c X P w ts st 0->Calls Tryz.prog g #[.pointer (some ⟨P,0,none⟩),.int .i64 (dp:Int)] w fun e w'=>RNA c X P G w e w'
def RRegexC (b:Nat):Prop:=∀(c:Pc) (P:Nat) (ts:List Tok) (st:Sts) (dp:Nat),dp+b=20->RNFn 50 c P ts st dp (RAg (regexM c.N b ts st))
def RPartC (b:Nat):Prop:=∀(c:Pc) (P:Nat) (ts:List Tok) (st:Sts) (dp:Nat),dp+b=20->RNFn 127 c P ts st dp (REx (signedM (partM c.N (inner c.N b)) ts st))
theorem rag_end {q:NR Nd} {n:Nd} {t:Tok} {r:List Tok} {st:Sts} {x:Nat} {y:Int} (h:RAg q n (t::r) st x) (hy:y≠0):REx (endN y q) n (rtR y x t r) st (rtD y x t):=by
 unfold rtR rtD
 rcases h with ⟨e1,e2⟩ | ⟨e1,e2⟩ | ⟨e1,e2,m,st2,e3⟩
 · rw [if_neg e1,if_neg e1,e2];exact .inl ⟨e1,rfl⟩
 · rw [if_pos e1,if_pos e1,e2]
   cases q41:tkSign y t with
   | true=>exact .inr ⟨rfl,by simp [endN,hdT,q41]⟩
   | false=>exact .inl ⟨by simp,by simp [endN,hdT,q41]⟩
 · have e0:x≠0:=by omega
   rw [if_neg e0,if_neg e0,e3]
   have q41:tkSign y t=false:=by
    have e2':t.k=1:=e2
    simp [tkSign,e2']
   exact .inl ⟨e0,by rw [e1];simp [endN,hdT,q41]⟩
theorem rpart_step (b:Nat) (ih:∀m,b=m+1->RRegexC m):RPartC b:=fun c P ts st dp hdb X w hpa=>by
 obtain ⟨t,r,rfl⟩:=hpa.ends.cons
 obtain ⟨q,hq⟩ :∃q,q=signedM (partM c.N (inner c.N b)) (t::r) st:=⟨_,rfl⟩
 have HQ:Hid (q=sgM (partM c.N (inner c.N b) (t::r) st)):=hq.trans (signedM_eq _ _ _)
 rw [<- hq]
 have HI:Hid (∀m,b=m+1->RRegexC m):=ih
 have hdp:(dp:Int)<=20:=by omega
 have hPl:=hpa.lt
 have hp0:=hpa.alloc (.cells #[.int .i64 0,.int .i64 0,.slice none 0 0] 39)
 have hsz:(ndW w).heap.size=w.heap.size+1:=by simp
 have HSZ:Hid ((ndW w).heap.size=w.heap.size+1):=hsz
 have hp00:=hp0.alloc (.cells #[.int .i64 0,.int .i64 0,.slice none 0 0] 39)
 have hi1:=hp0.im_new (.cells #[.int .i64 0,.int .i64 0,.slice none 0 0] 39)
 have he1:=heap_new' (ndW w) (.cells #[.int .i64 0,.int .i64 0,.slice none 0 0] 39)
 rw [hsz] at hp00 hi1 he1
 have HP0:Hid (Pa c (fun k=>(X k\/k=w.heap.size)\/k=w.heap.size+1) P (ndW (ndW w)) (t::r) st 0):=hp00
 have HIN:Hid (Im NoX (ndW (ndW w)) P (w.heap.size+1)/\(ndW (ndW w)).heap[w.heap.size+1]? = some (.cells #[.int .i64 0,.int .i64 0,.slice none 0 0] 39 (0,0))):=⟨hi1,he1⟩
 have HSZ0:Hid ((ndW (ndW w)).heap.size=w.heap.size+2):=by show _=_;simp
 have HLE:Hid ((ndW w).heap.size<=w.heap.size+1):=by show _<=_;omega
 have HIR:Hid (Im NoX (ndW w) P w.heap.size):=hpa.im_new _
 have HE0:Hid ((ndW w).heap[w.heap.size]? = some (.cells #[.int .i64 0,.int .i64 0,.slice none 0 0] 39 (0,0))):=heap_new' _ _
 have HF0:Hid (Fr w.heap.size P w (ndW w)):=hpa.fr (below_alloc _ _)
 have HF00:Hid (Fr (ndW w).heap.size P (ndW w) (ndW (ndW w))):=hp0.fr (below_alloc _ _)
 have TOF:Hid (∀w2,Fr (ndW (ndW w)).heap.size P (ndW (ndW w)) w2->Fr (ndW w).heap.size P (ndW w) w2):=fun w2 hf=>HF00.out.then hf HF00.out.size
 have NROW:Hid (∀w2,Fr (ndW (ndW w)).heap.size P (ndW (ndW w)) w2->w2.heap[w.heap.size+1]? = some (.cells #[.int .i64 0,.int .i64 0,.slice none 0 0] 39 (0,0))/\Im NoX w2 P (w.heap.size+1)):=fun w2 hf=>by
  obtain ⟨g1,g2⟩:=hf.keep _ (by rw [HSZ0.out];omega) HIN.out.1
  exact ⟨g1.trans HIN.out.2,g2⟩
 have ROW:Hid (∀w2,Fr (ndW w).heap.size P (ndW w) w2->w2.heap[w.heap.size]? = some (.cells #[.int .i64 0,.int .i64 0,.slice none 0 0] 39 (0,0))/\w.heap.size<w2.heap.size):=fun w2 hf2=>by
  obtain ⟨g1,g2⟩:=hf2.keep _ (by rw [HSZ.out];omega) HIR.out
  exact ⟨g1.trans HE0.out,g2.1⟩
 have FIN:Hid (∀(w2:World) (n:Nd) (z:Value) (x:Nat) (r2:List Tok) (st2:Sts),SgOk n->Pa c (fun k=>(X k\/k=w.heap.size)\/k=w.heap.size+1) P w2 r2 st2 x->Fr (ndW w).heap.size P (ndW w) w2->KdX (fun k=>w.heap.size+2<=k/\Im (fun k=>(X k\/k=w.heap.size)\/k=w.heap.size+1) w2 P k) w2 z n.kids->REx q n r2 st2 x ->
  RNA c X P (REx q) w (.returned (.agg #[.int .i64 n.k,.int .i64 n.s,z])) (set3 w2 w.heap.size (.int .i64 n.k) (.int .i64 n.s) z)):=fun w2 n z x r2 st2 hsg hp2 hf2 hk hg=>by
  obtain ⟨g1,g2,g3⟩:=fin3 (lo:=w.heap.size+2) (hp2.less (X':=fun k=>X k\/k=w.heap.size) (fun k hk => .inl hk)) (hf2.keep _ (by rw [HSZ.out];omega) HIR.out).2 (HF0.out.then hf2 (by rw [HSZ.out];omega)) (Nat.le_refl _) (hk.to (fun k hk=>⟨rfl,hk.1,hk.2.less (fun q => .inl q)⟩)) (by omega) (.int .i64 n.k) (.int .i64 n.s) z
  exact ⟨n,z,x,r2,st2,rfl,g3,hsg,g1,g2,hg⟩
 have h1:Calls Tryz.prog 88 #[.pointer (some ⟨P,0,none⟩),.string ⟨#[40]⟩] (ndW (ndW w)) fun e w'=>AnsB (ndW (ndW w)) (decide (0=0)&&tkSign 40 t) e w':=ris_any c _ P _ t r st 0 HP0.out 40 (by decide)
 simp only [decide_true,Bool.true_and] at h1
 clear hq hpa ih hp0 hp00 hi1 he1 hsz HIN HIR HE0 HF0 HF00
 go_enter Tryz.func127,Tryz.ntmps127
 cases s40:tkSign 40 t with
 | true =>
  rw [s40] at h1
  go_wp2_with fail
  refine h1.mono ?_
  rintro e w1 ⟨rfl,hB1⟩
  clear h1
  have HP1:Hid (Pa c (fun k=>(X k\/k=w.heap.size)\/k=w.heap.size+1) P w1 (t::r) st 0):=HP0.out.below hB1
  have HF1:Hid (Fr (ndW (ndW w)).heap.size P (ndW (ndW w)) w1):=HP0.out.fr hB1
  have hPl1:=HP1.out.lt
  by_cases hb:b=0
  · subst hb
    have hd2:decide ((dp:Int) ≥ 20)=true:=by simp;omega
    have HE:Hid (q = .inl (t::r,3)):=by
     show _=_
     rw [HQ.out,partM_br0 s40];rfl
    have hfl:=fail_any c _ P w1 st 0 HP1.out 3 (by decide)
    simp only [if_true] at hfl
    go_wp2_with fail
    refine hfl.mono ?_
    rintro e w2 ⟨rfl,hp2,hf2⟩
    clear hfl
    have hf12:=HF1.out.then hf2 HF1.out.size
    obtain ⟨hRz,hRlz⟩:=ROW.out w2 (TOF.out w2 hf12)
    obtain ⟨hTz,hIz⟩:=NROW.out w2 hf12
    have HRz:Hid (w2.heap[w.heap.size]? = some (.cells #[.int .i64 0,.int .i64 0,.slice none 0 0] 39 (0,0))):=hRz
    have hNlz:w.heap.size+1<w2.heap.size:=hIz.1
    have HFN:Hid _:=FIN.out w2 ⟨0,0,[]⟩ (.slice none 0 0) 3 (t::r) st ⟨0,by omega,rfl⟩ hp2 (TOF.out w2 hf12) (KdX.nil _ _) (.inl ⟨by decide,HE.out⟩)
    have t0:w2.cell? ⟨(w.heap.size+1),0,none⟩=some (.int .i64 0):=cell_of_row _ _ 0 _ _ _ hTz
    have tf0:w2.frozen? ⟨(w.heap.size+1),0,none⟩=false:=frozen_of_row _ _ 0 _ _ hTz
    have t1:w2.cell? ⟨(w.heap.size+1),1,none⟩=some (.int .i64 0):=cell_of_row _ _ 1 _ _ _ hTz
    have tf1:w2.frozen? ⟨(w.heap.size+1),1,none⟩=false:=frozen_of_row _ _ 1 _ _ hTz
    have t2:w2.cell? ⟨(w.heap.size+1),2,none⟩=some (.slice none 0 0):=cell_of_row _ _ 2 _ _ _ hTz
    have tf2:w2.frozen? ⟨(w.heap.size+1),2,none⟩=false:=frozen_of_row _ _ 2 _ _ hTz
    have d0:w2.cell? ⟨w.heap.size,0,none⟩=some (.int .i64 0):=cell_of_row _ _ 0 _ _ _ hRz
    have df0:w2.frozen? ⟨w.heap.size,0,none⟩=false:=frozen_of_row _ _ 0 _ _ hRz
    have d1:w2.cell? ⟨w.heap.size,1,none⟩=some (.int .i64 0):=cell_of_row _ _ 1 _ _ _ hRz
    have df1:w2.frozen? ⟨w.heap.size,1,none⟩=false:=frozen_of_row _ _ 1 _ _ hRz
    have d2:w2.cell? ⟨w.heap.size,2,none⟩=some (.slice none 0 0):=cell_of_row _ _ 2 _ _ _ hRz
    have df2:w2.frozen? ⟨w.heap.size,2,none⟩=false:=frozen_of_row _ _ 2 _ _ hRz
    clear hRz hTz hIz
    clear hp2 hf2 hf12 hB1
    go_wp2
    refine bodyPost_ret (results_row_one rfl _ _ w.heap.size 39 #[.int .i64 0,.int .i64 0,.slice none 0 0] (0,0) _ rfl ?_ Tryz.underlying39 rfl (by kernel_rfl)) rfl ?_
    · exact set3_row HRz.out _ _ _
    exact HFN.out
  · obtain ⟨m,rfl⟩ :∃m,b=m+1:=⟨b-1,by omega⟩
    have hd2:decide ((dp:Int) ≥ 20)=false:=by simp;omega
    have HE:Hid (q=sgM (endN 41 (regexM c.N m r st))):=by
     show _=_
     rw [HQ.out,partM_br s40]
    obtain ⟨kk,hkk,c1,f1,hp2⟩:=HP1.out.adv (sign_end s40)
    have hf2:Fr w1.heap.size P w1 (w1.setCell ⟨P,1,none⟩ (.int .i64 ((kk:Int)+1))):=fr_own w1 1 (by decide) _
    have h4:Calls Tryz.prog 50 #[.pointer (some ⟨P,0,none⟩),.int .i64 ((dp:Int)+1)] _ fun e w'=>RNA c _ P (RAg (regexM c.N m r st)) _ e w':=HI.out m rfl c P r st (dp+1) (by omega) _ _ hp2
    have HF2:Hid (Fr (ndW (ndW w)).heap.size P (ndW (ndW w)) (w1.setCell ⟨P,1,none⟩ (.int .i64 ((kk:Int)+1)))):=HF1.out.then hf2 HF1.out.size
    clear hf2 hp2 hb hB1
    go_wp2_with fail
    refine h4.mono ?_
    rintro e w4 ⟨n4,z4,x4,r4,st4,rfl,hz4,hsg4,hp4,hf4,hg4⟩
    clear h4 c1 f1
    obtain ⟨za,zc,rfl,_⟩:=hz4.slice
    unfold ndV
    have hF4:=HF2.out.then hf4 HF2.out.size
    obtain ⟨hT4,hI4⟩:=NROW.out w4 hF4
    obtain ⟨t4,r4,rfl⟩:=hp4.ends.cons
    have hPN:P≠w.heap.size+1:=Ne.symm hI4.2.1
    have hp5:=hp4.set3 (.inr rfl) hI4 (.int .i64 n4.k) (.int .i64 n4.s) (.slice za n4.kids.length zc)
    have hF5:=(TOF.out w4 hF4).trans (set3_fr w4 HLE.out hPN (.int .i64 n4.k) (.int .i64 n4.s) (.slice za n4.kids.length zc))
    have hT5:=set3_row hT4 (.int .i64 n4.k) (.int .i64 n4.s) (.slice za n4.kids.length zc)
    have hI5:=set3_im hPN (.int .i64 n4.k) (.int .i64 n4.s) (.slice za n4.kids.length zc) hI4
    have hz5:KdX (fun k=>w.heap.size+2<=k/\Im (fun k=>(X k\/k=w.heap.size)\/k=w.heap.size+1) (set3 w4 (w.heap.size+1) (.int .i64 n4.k) (.int .i64 n4.s) (.slice za n4.kids.length zc)) P k) (set3 w4 (w.heap.size+1) (.int .i64 n4.k) (.int .i64 n4.s) (.slice za n4.kids.length zc)) (.slice za n4.kids.length zc) n4.kids:=hz4.to (fun k hk=>⟨set3_block _ _ _ _ _ k (fun q=>hk.2.2.2.2 (.inr q)),by have:=hk.1;have:=HF2.out.size;have:=HSZ0.out;omega,set3_im hPN _ _ _ hk.2⟩)
    have h5:Calls Tryz.prog 48 #[.pointer (some ⟨P,0,none⟩),.string ⟨#[41]⟩] _ fun e w'=>e = .returned (.tuple #[])/\Pa c _ P w' (rtR 41 x4 t4 r4) st4 (rtD 41 x4 t4)/\Fr _ P _ w':=rtake_any c _ P _ t4 r4 st4 x4 hp5 41 (by decide)
    have HF5:Hid (Fr (ndW w).heap.size P (ndW w) (set3 w4 (w.heap.size+1) (.int .i64 n4.k) (.int .i64 n4.s) (.slice za n4.kids.length zc))):=hF5
    have HT5:Hid ((set3 w4 (w.heap.size+1) (.int .i64 n4.k) (.int .i64 n4.s) (.slice za n4.kids.length zc)).heap[w.heap.size+1]? = some (.cells #[.int .i64 n4.k,.int .i64 n4.s,.slice za n4.kids.length zc] 39 (0,0))/\Im NoX (set3 w4 (w.heap.size+1) (.int .i64 n4.k) (.int .i64 n4.s) (.slice za n4.kids.length zc)) P (w.heap.size+1)):=⟨hT5,hI5⟩
    have HZ5:Hid (KdX (fun k=>w.heap.size+2<=k/\Im (fun k=>(X k\/k=w.heap.size)\/k=w.heap.size+1) (set3 w4 (w.heap.size+1) (.int .i64 n4.k) (.int .i64 n4.s) (.slice za n4.kids.length zc)) P k) (set3 w4 (w.heap.size+1) (.int .i64 n4.k) (.int .i64 n4.s) (.slice za n4.kids.length zc)) (.slice za n4.kids.length zc) n4.kids):=hz5
    have HG4:Hid (RAg (regexM c.N m r st) n4 (t4::r4) st4 x4):=hg4
    have HSG4:Hid (SgOk n4):=hsg4
    have t0:w4.cell? ⟨(w.heap.size+1),0,none⟩=some (.int .i64 0):=cell_of_row _ _ 0 _ _ _ hT4
    have tf0:w4.frozen? ⟨(w.heap.size+1),0,none⟩=false:=frozen_of_row _ _ 0 _ _ hT4
    have t1:w4.cell? ⟨(w.heap.size+1),1,none⟩=some (.int .i64 0):=cell_of_row _ _ 1 _ _ _ hT4
    have tf1:w4.frozen? ⟨(w.heap.size+1),1,none⟩=false:=frozen_of_row _ _ 1 _ _ hT4
    have t2:w4.cell? ⟨(w.heap.size+1),2,none⟩=some (.slice none 0 0):=cell_of_row _ _ 2 _ _ _ hT4
    have tf2:w4.frozen? ⟨(w.heap.size+1),2,none⟩=false:=frozen_of_row _ _ 2 _ _ hT4
    have hNl4:w.heap.size+1<w4.heap.size:=hI4.1
    clear hT4 hI4 hT5 hI5 hz5 hF5 hF4 hp5 hz4 hf4 hp4 hg4 hsg4
    go_wp2_with fail
    refine h5.mono ?_
    rintro e w6 ⟨rfl,hp6,hf6⟩
    clear h5
    clear t0 tf0 t1 tf1 t2 tf2
    obtain ⟨cc,hcc,hch⟩:=HSG4.out
    have HCH:Hid (cc<=3/\Chain cc n4):=⟨hcc,hch⟩
    have HCHN:Hid (Chain cc n4):=hch
    obtain ⟨x6,hx6⟩ :∃x6,x6=rtD 41 x4 t4:=⟨_,rfl⟩
    obtain ⟨r6,hr6⟩ :∃r6,r6=rtR 41 x4 t4 r4:=⟨_,rfl⟩
    have HG:Hid ((x6≠0/\q = .inl (r6,((x6:Nat):Int)))\/(x6=0/\q=signF 4 cc n4 r6 st4)):=by
     have hh:=rag_end HG4.out (by decide:(41:Int)≠0)
     rw [<- hx6,<- hr6] at hh
     rcases hh with ⟨e1,e2⟩ | ⟨e1,e2⟩
     · exact .inl ⟨e1,by rw [HE.out,e2];rfl⟩
     · exact .inr ⟨e1,by rw [HE.out,e2,<- hch.cnt 4 (by omega)];rfl⟩
    rw [<- hx6,<- hr6] at hp6
    have HP:Hid (Pa c (fun k=>(X k\/k=w.heap.size)\/k=w.heap.size+1) P w6 r6 st4 x6):=hp6
    obtain ⟨hT6,hI6⟩:=hf6.keep (w.heap.size+1) HT5.out.2.1 HT5.out.2
    have HTN:Hid (w6.heap[w.heap.size+1]? = some (.cells #[.int .i64 n4.k,.int .i64 n4.s,.slice za n4.kids.length zc] 39 (0,0))/\Im NoX w6 P (w.heap.size+1)):=⟨hT6.trans HT5.out.1,hI6⟩
    have HZ:Hid (KdX (fun k=>w.heap.size+2<=k/\Im (fun k=>(X k\/k=w.heap.size)\/k=w.heap.size+1) w6 P k) w6 (.slice za n4.kids.length zc) n4.kids):=HZ5.out.fr hf6
    have HF:Hid (Fr (ndW w).heap.size P (ndW w) w6):=HF5.out.then hf6 HF5.out.size
    clear hp6 hf6 hT6 hI6 HT5 HZ5 HF5 HG4 HSG4 hx6 hr6 hch hcc HE HF1 HF2 HP1 hNl4
    have hch:=HCH.out.2
    have hc3:=HCH.out.1
    have he:=rends_any _ cc hc3 n4 (.slice za n4.kids.length zc) w6 (fun k hk=>hk.2.1) HZ.out hch
    unfold ndV at he
    have hTN:=HTN.out.1
    have t0:w6.cell? ⟨(w.heap.size+1),0,none⟩=some (.int .i64 n4.k):=cell_of_row _ _ 0 _ _ _ hTN
    have tf0:w6.frozen? ⟨(w.heap.size+1),0,none⟩=false:=frozen_of_row _ _ 0 _ _ hTN
    have t1:w6.cell? ⟨(w.heap.size+1),1,none⟩=some (.int .i64 n4.s):=cell_of_row _ _ 1 _ _ _ hTN
    have tf1:w6.frozen? ⟨(w.heap.size+1),1,none⟩=false:=frozen_of_row _ _ 1 _ _ hTN
    have t2:w6.cell? ⟨(w.heap.size+1),2,none⟩=some (.slice za n4.kids.length zc):=cell_of_row _ _ 2 _ _ _ hTN
    have tf2:w6.frozen? ⟨(w.heap.size+1),2,none⟩=false:=frozen_of_row _ _ 2 _ _ hTN
    have hNl:w.heap.size+1<w6.heap.size:=HTN.out.2.1
    clear hTN hch
    go_wp2_with fail
    refine he.mono ?_
    rintro e we ⟨rfl,hBe⟩
    clear t0 tf0 t1 tf1 t2 tf2
    clear he
    have hpe:=HP.out.below hBe
    have hfe:=HP.out.fr hBe
    obtain ⟨hTe,hIe⟩:=hfe.keep (w.heap.size+1) hNl HTN.out.2
    have hTe2:=hTe.trans HTN.out.1
    have hze:=HZ.out.fr hfe
    have hFe:=HF.out.then hfe HF.out.size
    clear hTe hfe hBe HP HZ HF HTN HCH hNl
    go_wp2
    go_loopw [9] (fun v wr=>∃(j f:Nat) (n:Nd) (a:Option Addr) (cp:Nat) (r:List Tok) (x:Nat),v = .int .i64 (j:Int)/\j<=3/\4<=f+j/\Hid (Chain j n)/\Hid ((x≠0/\q = .inl (r,((x:Nat):Int)))\/(x=0/\q=signF f j n r st4))/\wr.heap[w.heap.size+1]? = some (.cells #[.int .i64 n.k,.int .i64 n.s,.slice a n.kids.length cp] 39 (0,0))/\Im NoX wr P (w.heap.size+1)/\KdX (fun k=>w.heap.size+2<=k/\Im (fun k=>(X k\/k=w.heap.size)\/k=w.heap.size+1) wr P k) wr (.slice a n.kids.length cp) n.kids/\Pa c (fun k=>(X k\/k=w.heap.size)\/k=w.heap.size+1) P wr r st4 x/\Fr (ndW w).heap.size P (ndW w) wr) (fun v _=>4-(intOf v).toNat)
    case atStart=>exact ⟨cc,4,n4,za,zc,r6,x6,rfl,hc3,by omega,HCHN,HG,hTe2,hIe,hze,hpe,hFe⟩
    case round =>
     clear HCHN HG
     obtain ⟨j,f,n,a,cp,r,x,rfl,hj3,hfj,HCN,HG,hTN,hIN,hz,hp,hf⟩:=hrel
     obtain ⟨f,rfl⟩ :∃m,f=m+1:=⟨f-1,by omega⟩
     obtain ⟨c5,_,_⟩:=hp.dep
     have hPl1:=hp.lt
     obtain ⟨hRR,hRl⟩:=ROW.out wr hf
     have hNl:w.heap.size+1<wr.heap.size:=hIN.1
     have HTN:Hid (wr.heap[w.heap.size+1]? = some (.cells #[.int .i64 n.k,.int .i64 n.s,.slice a n.kids.length cp] 39 (0,0))/\Im NoX wr P (w.heap.size+1)):=⟨hTN,hIN⟩
     have HP:Hid (Pa c (fun k=>(X k\/k=w.heap.size)\/k=w.heap.size+1) P wr r st4 x):=hp
     have HZ:Hid (KdX (fun k=>w.heap.size+2<=k/\Im (fun k=>(X k\/k=w.heap.size)\/k=w.heap.size+1) wr P k) wr (.slice a n.kids.length cp) n.kids):=hz
     have HF:Hid (Fr (ndW w).heap.size P (ndW w) wr):=hf
     have HRR:Hid (wr.heap[w.heap.size]? = some (.cells #[.int .i64 0,.int .i64 0,.slice none 0 0] 39 (0,0))):=hRR
     have HSG:Hid (SgOk n):=⟨j,hj3,HCN.out⟩
     have HJF:Hid (4<=f+1+j):=hfj
     clear hz hp hf hIN hfj
     rcases HG.out with ⟨hx0,hxq⟩ | ⟨rfl,hxq⟩
     · have hx':((x:Int)==0)=false:=by simp;omega
       have t0:wr.cell? ⟨(w.heap.size+1),0,none⟩=some (.int .i64 n.k):=cell_of_row _ _ 0 _ _ _ hTN
       have tf0:wr.frozen? ⟨(w.heap.size+1),0,none⟩=false:=frozen_of_row _ _ 0 _ _ hTN
       have t1:wr.cell? ⟨(w.heap.size+1),1,none⟩=some (.int .i64 n.s):=cell_of_row _ _ 1 _ _ _ hTN
       have tf1:wr.frozen? ⟨(w.heap.size+1),1,none⟩=false:=frozen_of_row _ _ 1 _ _ hTN
       have t2:wr.cell? ⟨(w.heap.size+1),2,none⟩=some (.slice a n.kids.length cp):=cell_of_row _ _ 2 _ _ _ hTN
       have tf2:wr.frozen? ⟨(w.heap.size+1),2,none⟩=false:=frozen_of_row _ _ 2 _ _ hTN
       have d0:wr.cell? ⟨w.heap.size,0,none⟩=some (.int .i64 0):=cell_of_row _ _ 0 _ _ _ hRR
       have df0:wr.frozen? ⟨w.heap.size,0,none⟩=false:=frozen_of_row _ _ 0 _ _ hRR
       have d1:wr.cell? ⟨w.heap.size,1,none⟩=some (.int .i64 0):=cell_of_row _ _ 1 _ _ _ hRR
       have df1:wr.frozen? ⟨w.heap.size,1,none⟩=false:=frozen_of_row _ _ 1 _ _ hRR
       have d2:wr.cell? ⟨w.heap.size,2,none⟩=some (.slice none 0 0):=cell_of_row _ _ 2 _ _ _ hRR
       have df2:wr.frozen? ⟨w.heap.size,2,none⟩=false:=frozen_of_row _ _ 2 _ _ hRR
       have HFN:Hid _:=FIN.out wr n (.slice a n.kids.length cp) x r st4 HSG.out HP.out HF.out HZ.out (.inl ⟨hx0,hxq⟩)
       clear hTN hRR hx0 hxq HG
       go_wp2
       refine bodyPost_ret (results_row_one rfl _ _ w.heap.size 39 #[.int .i64 n.k,.int .i64 n.s,.slice a n.kids.length cp] (0,0) _ rfl ?_ Tryz.underlying39 rfl (by kernel_rfl)) rfl ?_
       · exact set3_row HRR.out _ _ _
       exact HFN.out
     · have HXQ:Hid (q=signF (f+1) j n r st4):=hxq
       obtain ⟨t,r,rfl⟩:=HP.out.ends.cons
       have hn:=now_any c _ P wr t r st4 0 HP.out
       obtain ⟨_,_,_,_,_,_,_,_,_,_,_,_,_,_,_,hby,_,_⟩:=HP.out.next
       have s42:((strOfNums t.t).toList==([42]:List UInt8))=decide (t.t=[42]):=strB_eq hby [42] (fun y hy=>by simp at hy;omega) rfl
       have s43:((strOfNums t.t).toList==([43]:List UInt8))=decide (t.t=[43]):=strB_eq hby [43] (fun y hy=>by simp at hy;omega) rfl
       have s63:((strOfNums t.t).toList==([63]:List UInt8))=decide (t.t=[63]):=strB_eq hby [63] (fun y hy=>by simp at hy;omega) rfl
       clear hTN hRR hxq HG hby
       go_wp2_with fail
       refine hn.mono ?_
       rintro e w3 ⟨v3,rfl,hr3,hB3⟩
       obtain ⟨va,vc,rfl⟩:=hr3.slice
       unfold tokV
       have hf3:=HP.out.fr hB3
       obtain ⟨hT3,hI3⟩:=hf3.keep (w.heap.size+1) hNl HTN.out.2
       have hT3b:=hT3.trans HTN.out.1
       obtain ⟨hR3,hRl3⟩:=ROW.out w3 (HF.out.then hf3 HF.out.size)
       have hPl3:=(HP.out.below hB3).lt
       have hNl3:w.heap.size+1<w3.heap.size:=hI3.1
       have t0:w3.cell? ⟨(w.heap.size+1),0,none⟩=some (.int .i64 n.k):=cell_of_row _ _ 0 _ _ _ hT3b
       have tf0:w3.frozen? ⟨(w.heap.size+1),0,none⟩=false:=frozen_of_row _ _ 0 _ _ hT3b
       have t1:w3.cell? ⟨(w.heap.size+1),1,none⟩=some (.int .i64 n.s):=cell_of_row _ _ 1 _ _ _ hT3b
       have tf1:w3.frozen? ⟨(w.heap.size+1),1,none⟩=false:=frozen_of_row _ _ 1 _ _ hT3b
       have t2:w3.cell? ⟨(w.heap.size+1),2,none⟩=some (.slice a n.kids.length cp):=cell_of_row _ _ 2 _ _ _ hT3b
       have tf2:w3.frozen? ⟨(w.heap.size+1),2,none⟩=false:=frozen_of_row _ _ 2 _ _ hT3b
       have d0:w3.cell? ⟨w.heap.size,0,none⟩=some (.int .i64 0):=cell_of_row _ _ 0 _ _ _ hR3
       have df0:w3.frozen? ⟨w.heap.size,0,none⟩=false:=frozen_of_row _ _ 0 _ _ hR3
       have d1:w3.cell? ⟨w.heap.size,1,none⟩=some (.int .i64 0):=cell_of_row _ _ 1 _ _ _ hR3
       have df1:w3.frozen? ⟨w.heap.size,1,none⟩=false:=frozen_of_row _ _ 1 _ _ hR3
       have d2:w3.cell? ⟨w.heap.size,2,none⟩=some (.slice none 0 0):=cell_of_row _ _ 2 _ _ _ hR3
       have df2:w3.frozen? ⟨w.heap.size,2,none⟩=false:=frozen_of_row _ _ 2 _ _ hR3
       have hB4:Below wr.heap.size wr (w3.alloc (.cells #[.int .i64 t.k,.int .i64 (t.p:Int),.string (strOfNums t.t),.slice va t.s.length vc] 54)):=below_after hB3 (below_alloc _ _)
       have hp4:=HP.out.below hB4
       have hf34:=HP.out.fr hB4
       obtain ⟨hT4,hI4⟩:=hf34.keep (w.heap.size+1) hNl HTN.out.2
       have hT4b:=hT4.trans HTN.out.1
       have hz4:=HZ.out.fr hf34
       have hf4:=HF.out.then hf34 HF.out.size
       obtain ⟨hR4,hRl4⟩:=ROW.out (w3.alloc (.cells #[.int .i64 t.k,.int .i64 (t.p:Int),.string (strOfNums t.t),.slice va t.s.length vc] 54)) hf4
       have HT4:Hid ((w3.alloc (.cells #[.int .i64 t.k,.int .i64 (t.p:Int),.string (strOfNums t.t),.slice va t.s.length vc] 54)).heap[w.heap.size+1]? = some (.cells #[.int .i64 n.k,.int .i64 n.s,.slice a n.kids.length cp] 39 (0,0))/\Im NoX (w3.alloc (.cells #[.int .i64 t.k,.int .i64 (t.p:Int),.string (strOfNums t.t),.slice va t.s.length vc] 54)) P (w.heap.size+1)):=⟨hT4b,hI4⟩
       have HP4:Hid (Pa c (fun k=>(X k\/k=w.heap.size)\/k=w.heap.size+1) P (w3.alloc (.cells #[.int .i64 t.k,.int .i64 (t.p:Int),.string (strOfNums t.t),.slice va t.s.length vc] 54)) (t::r) st4 0):=hp4
       have HZ4:Hid (KdX (fun k=>w.heap.size+2<=k/\Im (fun k=>(X k\/k=w.heap.size)\/k=w.heap.size+1) (w3.alloc (.cells #[.int .i64 t.k,.int .i64 (t.p:Int),.string (strOfNums t.t),.slice va t.s.length vc] 54)) P k) (w3.alloc (.cells #[.int .i64 t.k,.int .i64 (t.p:Int),.string (strOfNums t.t),.slice va t.s.length vc] 54)) (.slice a n.kids.length cp) n.kids):=hz4
       have HF4:Hid (Fr (ndW w).heap.size P (ndW w) (w3.alloc (.cells #[.int .i64 t.k,.int .i64 (t.p:Int),.string (strOfNums t.t),.slice va t.s.length vc] 54))):=hf4
       have HR4:Hid ((w3.alloc (.cells #[.int .i64 t.k,.int .i64 (t.p:Int),.string (strOfNums t.t),.slice va t.s.length vc] 54)).heap[w.heap.size]? = some (.cells #[.int .i64 0,.int .i64 0,.slice none 0 0] 39 (0,0))):=hR4
       clear hn hr3 hB3 hB4 hp4 hf34 hT4 hI4 hT4b hz4 hf4 hR4 hRl4 HP HZ HF HRR HTN c5 hT3 hI3 hT3b hR3 hf3
       by_cases h2:t.k=2
       · have h2':(t.k != 2)=false:=by simpa using h2
         by_cases q42:t.t=[42]
         · rw [decide_eq_true q42] at s42
           have hkt:kindT (hdT (t::r))=3:=by simp [kindT,tkSign,hdT,h2,q42]
           have hkn:¬kindT (hdT (t::r))=0:=by rw [hkt];decide
           have hk4:t.k≠4:=by rw [h2];decide
           by_cases h3:j=3
           · have HE:Hid (q = .inl (t::r,3)):=by
              show _=_
              rw [HXQ.out];unfold signF;rw [if_neg hkn,if_pos h3]
             have h3':decide ((j:Int) ≥ 3)=true:=by simp;omega
             have hfl:=fail_any c _ P (w3.alloc (.cells #[.int .i64 t.k,.int .i64 (t.p:Int),.string (strOfNums t.t),.slice va t.s.length vc] 54)) st4 0 HP4.out 3 (by decide)
             simp only [if_true] at hfl
             clear h2 q42 s43 s63 hkt hkn hk4 h3
             clear t0 tf0 t1 tf1 t2 tf2 d0 df0 d1 df1 d2 df2
             go_wp2_with fail
             refine hfl.mono ?_
             rintro e w5 ⟨rfl,hp5,hf5⟩
             clear hfl
             obtain ⟨hT5,hI5⟩:=hf5.keep (w.heap.size+1) HT4.out.2.1 HT4.out.2
             have hT5b:=hT5.trans HT4.out.1
             have hf45:=HF4.out.then hf5 HF4.out.size
             obtain ⟨hR5,hRl5⟩:=ROW.out w5 hf45
             have HR5:Hid (w5.heap[w.heap.size]? = some (.cells #[.int .i64 0,.int .i64 0,.slice none 0 0] 39 (0,0))):=hR5
             have hNl5:w.heap.size+1<w5.heap.size:=hI5.1
             have HFN:Hid _:=FIN.out w5 n (.slice a n.kids.length cp) 3 (t::r) st4 HSG.out hp5 hf45 (HZ4.out.fr hf5) (.inl ⟨by decide,HE.out⟩)
             have t0:w5.cell? ⟨(w.heap.size+1),0,none⟩=some (.int .i64 n.k):=cell_of_row _ _ 0 _ _ _ hT5b
             have tf0:w5.frozen? ⟨(w.heap.size+1),0,none⟩=false:=frozen_of_row _ _ 0 _ _ hT5b
             have t1:w5.cell? ⟨(w.heap.size+1),1,none⟩=some (.int .i64 n.s):=cell_of_row _ _ 1 _ _ _ hT5b
             have tf1:w5.frozen? ⟨(w.heap.size+1),1,none⟩=false:=frozen_of_row _ _ 1 _ _ hT5b
             have t2:w5.cell? ⟨(w.heap.size+1),2,none⟩=some (.slice a n.kids.length cp):=cell_of_row _ _ 2 _ _ _ hT5b
             have tf2:w5.frozen? ⟨(w.heap.size+1),2,none⟩=false:=frozen_of_row _ _ 2 _ _ hT5b
             have d0:w5.cell? ⟨w.heap.size,0,none⟩=some (.int .i64 0):=cell_of_row _ _ 0 _ _ _ hR5
             have df0:w5.frozen? ⟨w.heap.size,0,none⟩=false:=frozen_of_row _ _ 0 _ _ hR5
             have d1:w5.cell? ⟨w.heap.size,1,none⟩=some (.int .i64 0):=cell_of_row _ _ 1 _ _ _ hR5
             have df1:w5.frozen? ⟨w.heap.size,1,none⟩=false:=frozen_of_row _ _ 1 _ _ hR5
             have d2:w5.cell? ⟨w.heap.size,2,none⟩=some (.slice none 0 0):=cell_of_row _ _ 2 _ _ _ hR5
             have df2:w5.frozen? ⟨w.heap.size,2,none⟩=false:=frozen_of_row _ _ 2 _ _ hR5
             clear hp5 hf5 hT5 hI5 hT5b hf45 hR5
             go_wp2
             refine bodyPost_ret (results_row_one rfl _ _ w.heap.size 39 #[.int .i64 n.k,.int .i64 n.s,.slice a n.kids.length cp] (0,0) _ rfl ?_ Tryz.underlying39 rfl (by kernel_rfl)) rfl ?_
             · exact set3_row HR5.out _ _ _
             exact HFN.out
           · have HE:Hid (q=signF f (j+1) ⟨3,0,[n]⟩ r st4):=by
              show _=_
              rw [HXQ.out,signF_on hkn h3,hkt];rfl
             have h3':decide ((j:Int) ≥ 3)=false:=by simp;omega
             have hj2:j<=2:=by omega
             obtain ⟨kk,hkk,c1,f1,hp5⟩:=HP4.out.adv hk4
             have hf5:Fr (w3.alloc (.cells #[.int .i64 t.k,.int .i64 (t.p:Int),.string (strOfNums t.t),.slice va t.s.length vc] 54)).heap.size P (w3.alloc (.cells #[.int .i64 t.k,.int .i64 (t.p:Int),.string (strOfNums t.t),.slice va t.s.length vc] 54)) ((w3.alloc (.cells #[.int .i64 t.k,.int .i64 (t.p:Int),.string (strOfNums t.t),.slice va t.s.length vc] 54)).setCell ⟨P,1,none⟩ (.int .i64 ((kk:Int)+1))):=fr_own (w3.alloc (.cells #[.int .i64 t.k,.int .i64 (t.p:Int),.string (strOfNums t.t),.slice va t.s.length vc] 54)) 1 (by decide) _
             obtain ⟨hT5,hI5⟩:=hf5.keep (w.heap.size+1) HT4.out.2.1 HT4.out.2
             have hz5:=HZ4.out.fr hf5
             have hF5:=HF4.out.then hf5 HF4.out.size
             have hT5b:=hT5.trans HT4.out.1
             have hcm:(w3.alloc (.cells #[.int .i64 t.k,.int .i64 (t.p:Int),.string (strOfNums t.t),.slice va t.s.length vc] 54)).setCell ⟨P,1,none⟩ (.int .i64 ((kk:Int)+1))=((w3.setCell ⟨P,1,none⟩ (.int .i64 ((kk:Int)+1))).alloc (.cells #[.int .i64 t.k,.int .i64 (t.p:Int),.string (strOfNums t.t),.slice va t.s.length vc] 54)):=World.setCell_alloc_past _ P 1 _ hPl3
             rw [hcm] at hp5 hz5 hF5 hT5b hI5
             have HT5:Hid (((w3.setCell ⟨P,1,none⟩ (.int .i64 ((kk:Int)+1))).alloc (.cells #[.int .i64 t.k,.int .i64 (t.p:Int),.string (strOfNums t.t),.slice va t.s.length vc] 54)).heap[w.heap.size+1]? = some (.cells #[.int .i64 n.k,.int .i64 n.s,.slice a n.kids.length cp] 39 (0,0))/\Im NoX ((w3.setCell ⟨P,1,none⟩ (.int .i64 ((kk:Int)+1))).alloc (.cells #[.int .i64 t.k,.int .i64 (t.p:Int),.string (strOfNums t.t),.slice va t.s.length vc] 54)) P (w.heap.size+1)):=⟨hT5b,hI5⟩
             have HP5:Hid (Pa c (fun k=>(X k\/k=w.heap.size)\/k=w.heap.size+1) P ((w3.setCell ⟨P,1,none⟩ (.int .i64 ((kk:Int)+1))).alloc (.cells #[.int .i64 t.k,.int .i64 (t.p:Int),.string (strOfNums t.t),.slice va t.s.length vc] 54)) r st4 0):=hp5
             have HZ5:Hid (KdX (fun k=>w.heap.size+2<=k/\Im (fun k=>(X k\/k=w.heap.size)\/k=w.heap.size+1) ((w3.setCell ⟨P,1,none⟩ (.int .i64 ((kk:Int)+1))).alloc (.cells #[.int .i64 t.k,.int .i64 (t.p:Int),.string (strOfNums t.t),.slice va t.s.length vc] 54)) P k) ((w3.setCell ⟨P,1,none⟩ (.int .i64 ((kk:Int)+1))).alloc (.cells #[.int .i64 t.k,.int .i64 (t.p:Int),.string (strOfNums t.t),.slice va t.s.length vc] 54)) (.slice a n.kids.length cp) n.kids):=hz5
             have HF5:Hid (Fr (ndW w).heap.size P (ndW w) ((w3.setCell ⟨P,1,none⟩ (.int .i64 ((kk:Int)+1))).alloc (.cells #[.int .i64 t.k,.int .i64 (t.p:Int),.string (strOfNums t.t),.slice va t.s.length vc] 54))):=hF5
             have hPN:P≠w.heap.size+1:=Ne.symm HT4.out.2.2.1
             have HCN2:Hid (Chain (j+1) ⟨3,0,[n]⟩):=⟨rfl,n,rfl,HCN.out⟩
             have HSZ5:Hid (((w3.setCell ⟨P,1,none⟩ (.int .i64 ((kk:Int)+1))).alloc (.cells #[.int .i64 t.k,.int .i64 (t.p:Int),.string (strOfNums t.t),.slice va t.s.length vc] 54)).heap.size=w3.heap.size+1):=by show _=_;simp [World.setCell]
             have c13:w3.cell? ⟨P,1,none⟩=some (.int .i64 (kk:Int)):=((below_alloc w3 _).cell (p:=⟨P,1,none⟩) hPl3).symm.trans c1
             have f13:w3.frozen? ⟨P,1,none⟩=false:=(World.frozen?_of_block (a:=⟨P,1,none⟩) ((below_alloc w3 _).block P hPl3)).symm.trans f1
             clear hz5 hF5 hT5b hcm c1 f1
             clear h2 q42 s43 s63 hkt hkn hk4 h3 hp5 hf5 hT5 hI5
             go_wp2
             go_roundw
             case rel =>
              have hW:((set3 (w3.setCell ⟨P,1,none⟩ (.int .i64 ((kk:Int)+1))) (w.heap.size+1) (.int .i64 3) (.int .i64 0) (.slice (some ⟨w3.heap.size+1,0,none⟩) 1 1)).alloc (.cells #[.int .i64 t.k,.int .i64 (t.p:Int),.string (strOfNums t.t),.slice va t.s.length vc] 54)).alloc (.cells #[.int .i64 n.k,.int .i64 n.s,.slice a n.kids.length cp] 39)=set3 (((w3.setCell ⟨P,1,none⟩ (.int .i64 ((kk:Int)+1))).alloc (.cells #[.int .i64 t.k,.int .i64 (t.p:Int),.string (strOfNums t.t),.slice va t.s.length vc] 54)).alloc (.cells #[.int .i64 n.k,.int .i64 n.s,.slice a n.kids.length cp] 39)) (w.heap.size+1) (.int .i64 3) (.int .i64 0) (.slice (some ⟨w3.heap.size+1,0,none⟩) 1 1):=by
               rw [set3_alloc (w3.setCell ⟨P,1,none⟩ (.int .i64 ((kk:Int)+1))) (w.heap.size+1) _ _ _ _ (by simpa [World.setCell] using hNl3),set3_alloc _ (w.heap.size+1) _ _ _ _ (by simp [World.setCell];omega)]
              rw [hW]
              clear hW
              obtain ⟨w5,hw5⟩ :∃w5,w5=((w3.setCell ⟨P,1,none⟩ (.int .i64 ((kk:Int)+1))).alloc (.cells #[.int .i64 t.k,.int .i64 (t.p:Int),.string (strOfNums t.t),.slice va t.s.length vc] 54)):=⟨_,rfl⟩
              have hT5:=HT5.out
              have hp5:=HP5.out
              have hz5:=HZ5.out
              have hf5:=HF5.out
              have hs5:=HSZ5.out
              rw [<- hw5] at hT5 hp5 hz5 hf5 hs5 ⊢
              have hlT5:w.heap.size+1<w5.heap.size:=by omega
              have hB6:=below_alloc w5 (.cells #[.int .i64 n.k,.int .i64 n.s,.slice a n.kids.length cp] 39)
              have hf6:=hp5.fr hB6
              have hp6:=hp5.below hB6
              obtain ⟨hT6,hI6⟩:=hf6.keep (w.heap.size+1) hlT5 hT5.2
              have hS6:=heap_new' w5 (.cells #[.int .i64 n.k,.int .i64 n.s,.slice a n.kids.length cp] 39)
              have hIS:=hp5.fresh hB6 w5.heap.size (Nat.le_refl _) (by simp)
              have hSne:w5.heap.size≠w.heap.size+1:=by omega
              have hf56:=hf5.then hf6 hf5.size
              refine ⟨j+1,f,⟨3,0,[n]⟩,some ⟨w3.heap.size+1,0,none⟩,1,r,0,by go_num,by omega,by have:=HJF.out;omega,HCN2,.inr ⟨rfl,HE.out⟩,?_,?_,?_,?_,?_⟩
              · exact set3_row (hT6.trans hT5.1) _ _ _
              · exact set3_im hPN _ _ _ hI6
              · rw [<- hs5]
                refine KdX.one (z := .slice a n.kids.length cp) ((set3_block _ _ _ _ _ _ hSne).trans hS6) ⟨by omega,set3_im hPN _ _ _ hIS⟩ ?_
                exact (hz5.fr hf6).to (fun k hk=>⟨set3_block _ _ _ _ _ k (fun q=>hk.2.2.2.2 (.inr q)),hk.1,set3_im hPN _ _ _ hk.2⟩)
              · exact hp6.set3 (.inr rfl) hI6 _ _ _
              · exact hf56.trans (set3_fr _ HLE.out hPN _ _ _)
             case measure=>simp [intOf];omega
         · rw [decide_eq_false q42] at s42
           by_cases q43:t.t=[43]
           · rw [decide_eq_true q43] at s43
             have hkt:kindT (hdT (t::r))=4:=by simp [kindT,tkSign,hdT,h2,q43]
             have hkn:¬kindT (hdT (t::r))=0:=by rw [hkt];decide
             have hk4:t.k≠4:=by rw [h2];decide
             by_cases h3:j=3
             · have HE:Hid (q = .inl (t::r,3)):=by
                show _=_
                rw [HXQ.out];unfold signF;rw [if_neg hkn,if_pos h3]
               have h3':decide ((j:Int) ≥ 3)=true:=by simp;omega
               have hfl:=fail_any c _ P (w3.alloc (.cells #[.int .i64 t.k,.int .i64 (t.p:Int),.string (strOfNums t.t),.slice va t.s.length vc] 54)) st4 0 HP4.out 3 (by decide)
               simp only [if_true] at hfl
               clear h2 q42 q43 s63 hkt hkn hk4 h3
               clear t0 tf0 t1 tf1 t2 tf2 d0 df0 d1 df1 d2 df2
               go_wp2_with fail
               refine hfl.mono ?_
               rintro e w5 ⟨rfl,hp5,hf5⟩
               clear hfl
               obtain ⟨hT5,hI5⟩:=hf5.keep (w.heap.size+1) HT4.out.2.1 HT4.out.2
               have hT5b:=hT5.trans HT4.out.1
               have hf45:=HF4.out.then hf5 HF4.out.size
               obtain ⟨hR5,hRl5⟩:=ROW.out w5 hf45
               have HR5:Hid (w5.heap[w.heap.size]? = some (.cells #[.int .i64 0,.int .i64 0,.slice none 0 0] 39 (0,0))):=hR5
               have hNl5:w.heap.size+1<w5.heap.size:=hI5.1
               have HFN:Hid _:=FIN.out w5 n (.slice a n.kids.length cp) 3 (t::r) st4 HSG.out hp5 hf45 (HZ4.out.fr hf5) (.inl ⟨by decide,HE.out⟩)
               have t0:w5.cell? ⟨(w.heap.size+1),0,none⟩=some (.int .i64 n.k):=cell_of_row _ _ 0 _ _ _ hT5b
               have tf0:w5.frozen? ⟨(w.heap.size+1),0,none⟩=false:=frozen_of_row _ _ 0 _ _ hT5b
               have t1:w5.cell? ⟨(w.heap.size+1),1,none⟩=some (.int .i64 n.s):=cell_of_row _ _ 1 _ _ _ hT5b
               have tf1:w5.frozen? ⟨(w.heap.size+1),1,none⟩=false:=frozen_of_row _ _ 1 _ _ hT5b
               have t2:w5.cell? ⟨(w.heap.size+1),2,none⟩=some (.slice a n.kids.length cp):=cell_of_row _ _ 2 _ _ _ hT5b
               have tf2:w5.frozen? ⟨(w.heap.size+1),2,none⟩=false:=frozen_of_row _ _ 2 _ _ hT5b
               have d0:w5.cell? ⟨w.heap.size,0,none⟩=some (.int .i64 0):=cell_of_row _ _ 0 _ _ _ hR5
               have df0:w5.frozen? ⟨w.heap.size,0,none⟩=false:=frozen_of_row _ _ 0 _ _ hR5
               have d1:w5.cell? ⟨w.heap.size,1,none⟩=some (.int .i64 0):=cell_of_row _ _ 1 _ _ _ hR5
               have df1:w5.frozen? ⟨w.heap.size,1,none⟩=false:=frozen_of_row _ _ 1 _ _ hR5
               have d2:w5.cell? ⟨w.heap.size,2,none⟩=some (.slice none 0 0):=cell_of_row _ _ 2 _ _ _ hR5
               have df2:w5.frozen? ⟨w.heap.size,2,none⟩=false:=frozen_of_row _ _ 2 _ _ hR5
               clear hp5 hf5 hT5 hI5 hT5b hf45 hR5
               go_wp2
               refine bodyPost_ret (results_row_one rfl _ _ w.heap.size 39 #[.int .i64 n.k,.int .i64 n.s,.slice a n.kids.length cp] (0,0) _ rfl ?_ Tryz.underlying39 rfl (by kernel_rfl)) rfl ?_
               · exact set3_row HR5.out _ _ _
               exact HFN.out
             · have HE:Hid (q=signF f (j+1) ⟨4,0,[n]⟩ r st4):=by
                show _=_
                rw [HXQ.out,signF_on hkn h3,hkt];rfl
               have h3':decide ((j:Int) ≥ 3)=false:=by simp;omega
               have hj2:j<=2:=by omega
               obtain ⟨kk,hkk,c1,f1,hp5⟩:=HP4.out.adv hk4
               have hf5:Fr (w3.alloc (.cells #[.int .i64 t.k,.int .i64 (t.p:Int),.string (strOfNums t.t),.slice va t.s.length vc] 54)).heap.size P (w3.alloc (.cells #[.int .i64 t.k,.int .i64 (t.p:Int),.string (strOfNums t.t),.slice va t.s.length vc] 54)) ((w3.alloc (.cells #[.int .i64 t.k,.int .i64 (t.p:Int),.string (strOfNums t.t),.slice va t.s.length vc] 54)).setCell ⟨P,1,none⟩ (.int .i64 ((kk:Int)+1))):=fr_own (w3.alloc (.cells #[.int .i64 t.k,.int .i64 (t.p:Int),.string (strOfNums t.t),.slice va t.s.length vc] 54)) 1 (by decide) _
               obtain ⟨hT5,hI5⟩:=hf5.keep (w.heap.size+1) HT4.out.2.1 HT4.out.2
               have hz5:=HZ4.out.fr hf5
               have hF5:=HF4.out.then hf5 HF4.out.size
               have hT5b:=hT5.trans HT4.out.1
               have hcm:(w3.alloc (.cells #[.int .i64 t.k,.int .i64 (t.p:Int),.string (strOfNums t.t),.slice va t.s.length vc] 54)).setCell ⟨P,1,none⟩ (.int .i64 ((kk:Int)+1))=((w3.setCell ⟨P,1,none⟩ (.int .i64 ((kk:Int)+1))).alloc (.cells #[.int .i64 t.k,.int .i64 (t.p:Int),.string (strOfNums t.t),.slice va t.s.length vc] 54)):=World.setCell_alloc_past _ P 1 _ hPl3
               rw [hcm] at hp5 hz5 hF5 hT5b hI5
               have HT5:Hid (((w3.setCell ⟨P,1,none⟩ (.int .i64 ((kk:Int)+1))).alloc (.cells #[.int .i64 t.k,.int .i64 (t.p:Int),.string (strOfNums t.t),.slice va t.s.length vc] 54)).heap[w.heap.size+1]? = some (.cells #[.int .i64 n.k,.int .i64 n.s,.slice a n.kids.length cp] 39 (0,0))/\Im NoX ((w3.setCell ⟨P,1,none⟩ (.int .i64 ((kk:Int)+1))).alloc (.cells #[.int .i64 t.k,.int .i64 (t.p:Int),.string (strOfNums t.t),.slice va t.s.length vc] 54)) P (w.heap.size+1)):=⟨hT5b,hI5⟩
               have HP5:Hid (Pa c (fun k=>(X k\/k=w.heap.size)\/k=w.heap.size+1) P ((w3.setCell ⟨P,1,none⟩ (.int .i64 ((kk:Int)+1))).alloc (.cells #[.int .i64 t.k,.int .i64 (t.p:Int),.string (strOfNums t.t),.slice va t.s.length vc] 54)) r st4 0):=hp5
               have HZ5:Hid (KdX (fun k=>w.heap.size+2<=k/\Im (fun k=>(X k\/k=w.heap.size)\/k=w.heap.size+1) ((w3.setCell ⟨P,1,none⟩ (.int .i64 ((kk:Int)+1))).alloc (.cells #[.int .i64 t.k,.int .i64 (t.p:Int),.string (strOfNums t.t),.slice va t.s.length vc] 54)) P k) ((w3.setCell ⟨P,1,none⟩ (.int .i64 ((kk:Int)+1))).alloc (.cells #[.int .i64 t.k,.int .i64 (t.p:Int),.string (strOfNums t.t),.slice va t.s.length vc] 54)) (.slice a n.kids.length cp) n.kids):=hz5
               have HF5:Hid (Fr (ndW w).heap.size P (ndW w) ((w3.setCell ⟨P,1,none⟩ (.int .i64 ((kk:Int)+1))).alloc (.cells #[.int .i64 t.k,.int .i64 (t.p:Int),.string (strOfNums t.t),.slice va t.s.length vc] 54))):=hF5
               have hPN:P≠w.heap.size+1:=Ne.symm HT4.out.2.2.1
               have HCN2:Hid (Chain (j+1) ⟨4,0,[n]⟩):=⟨rfl,n,rfl,HCN.out⟩
               have HSZ5:Hid (((w3.setCell ⟨P,1,none⟩ (.int .i64 ((kk:Int)+1))).alloc (.cells #[.int .i64 t.k,.int .i64 (t.p:Int),.string (strOfNums t.t),.slice va t.s.length vc] 54)).heap.size=w3.heap.size+1):=by show _=_;simp [World.setCell]
               have c13:w3.cell? ⟨P,1,none⟩=some (.int .i64 (kk:Int)):=((below_alloc w3 _).cell (p:=⟨P,1,none⟩) hPl3).symm.trans c1
               have f13:w3.frozen? ⟨P,1,none⟩=false:=(World.frozen?_of_block (a:=⟨P,1,none⟩) ((below_alloc w3 _).block P hPl3)).symm.trans f1
               clear hz5 hF5 hT5b hcm c1 f1
               clear h2 q42 q43 s63 hkt hkn hk4 h3 hp5 hf5 hT5 hI5
               go_wp2
               go_roundw
               case rel =>
                have hW:((set3 (w3.setCell ⟨P,1,none⟩ (.int .i64 ((kk:Int)+1))) (w.heap.size+1) (.int .i64 4) (.int .i64 0) (.slice (some ⟨w3.heap.size+1,0,none⟩) 1 1)).alloc (.cells #[.int .i64 t.k,.int .i64 (t.p:Int),.string (strOfNums t.t),.slice va t.s.length vc] 54)).alloc (.cells #[.int .i64 n.k,.int .i64 n.s,.slice a n.kids.length cp] 39)=set3 (((w3.setCell ⟨P,1,none⟩ (.int .i64 ((kk:Int)+1))).alloc (.cells #[.int .i64 t.k,.int .i64 (t.p:Int),.string (strOfNums t.t),.slice va t.s.length vc] 54)).alloc (.cells #[.int .i64 n.k,.int .i64 n.s,.slice a n.kids.length cp] 39)) (w.heap.size+1) (.int .i64 4) (.int .i64 0) (.slice (some ⟨w3.heap.size+1,0,none⟩) 1 1):=by
                 rw [set3_alloc (w3.setCell ⟨P,1,none⟩ (.int .i64 ((kk:Int)+1))) (w.heap.size+1) _ _ _ _ (by simpa [World.setCell] using hNl3),set3_alloc _ (w.heap.size+1) _ _ _ _ (by simp [World.setCell];omega)]
                rw [hW]
                clear hW
                obtain ⟨w5,hw5⟩ :∃w5,w5=((w3.setCell ⟨P,1,none⟩ (.int .i64 ((kk:Int)+1))).alloc (.cells #[.int .i64 t.k,.int .i64 (t.p:Int),.string (strOfNums t.t),.slice va t.s.length vc] 54)):=⟨_,rfl⟩
                have hT5:=HT5.out
                have hp5:=HP5.out
                have hz5:=HZ5.out
                have hf5:=HF5.out
                have hs5:=HSZ5.out
                rw [<- hw5] at hT5 hp5 hz5 hf5 hs5 ⊢
                have hlT5:w.heap.size+1<w5.heap.size:=by omega
                have hB6:=below_alloc w5 (.cells #[.int .i64 n.k,.int .i64 n.s,.slice a n.kids.length cp] 39)
                have hf6:=hp5.fr hB6
                have hp6:=hp5.below hB6
                obtain ⟨hT6,hI6⟩:=hf6.keep (w.heap.size+1) hlT5 hT5.2
                have hS6:=heap_new' w5 (.cells #[.int .i64 n.k,.int .i64 n.s,.slice a n.kids.length cp] 39)
                have hIS:=hp5.fresh hB6 w5.heap.size (Nat.le_refl _) (by simp)
                have hSne:w5.heap.size≠w.heap.size+1:=by omega
                have hf56:=hf5.then hf6 hf5.size
                refine ⟨j+1,f,⟨4,0,[n]⟩,some ⟨w3.heap.size+1,0,none⟩,1,r,0,by go_num,by omega,by have:=HJF.out;omega,HCN2,.inr ⟨rfl,HE.out⟩,?_,?_,?_,?_,?_⟩
                · exact set3_row (hT6.trans hT5.1) _ _ _
                · exact set3_im hPN _ _ _ hI6
                · rw [<- hs5]
                  refine KdX.one (z := .slice a n.kids.length cp) ((set3_block _ _ _ _ _ _ hSne).trans hS6) ⟨by omega,set3_im hPN _ _ _ hIS⟩ ?_
                  exact (hz5.fr hf6).to (fun k hk=>⟨set3_block _ _ _ _ _ k (fun q=>hk.2.2.2.2 (.inr q)),hk.1,set3_im hPN _ _ _ hk.2⟩)
                · exact hp6.set3 (.inr rfl) hI6 _ _ _
                · exact hf56.trans (set3_fr _ HLE.out hPN _ _ _)
               case measure=>simp [intOf];omega
           · rw [decide_eq_false q43] at s43
             by_cases q63:t.t=[63]
             · rw [decide_eq_true q63] at s63
               have hkt:kindT (hdT (t::r))=5:=by simp [kindT,tkSign,hdT,h2,q63]
               have hkn:¬kindT (hdT (t::r))=0:=by rw [hkt];decide
               have hk4:t.k≠4:=by rw [h2];decide
               by_cases h3:j=3
               · have HE:Hid (q = .inl (t::r,3)):=by
                  show _=_
                  rw [HXQ.out];unfold signF;rw [if_neg hkn,if_pos h3]
                 have h3':decide ((j:Int) ≥ 3)=true:=by simp;omega
                 have hfl:=fail_any c _ P (w3.alloc (.cells #[.int .i64 t.k,.int .i64 (t.p:Int),.string (strOfNums t.t),.slice va t.s.length vc] 54)) st4 0 HP4.out 3 (by decide)
                 simp only [if_true] at hfl
                 clear h2 q42 q43 q63 hkt hkn hk4 h3
                 clear t0 tf0 t1 tf1 t2 tf2 d0 df0 d1 df1 d2 df2
                 go_wp2_with fail
                 refine hfl.mono ?_
                 rintro e w5 ⟨rfl,hp5,hf5⟩
                 clear hfl
                 obtain ⟨hT5,hI5⟩:=hf5.keep (w.heap.size+1) HT4.out.2.1 HT4.out.2
                 have hT5b:=hT5.trans HT4.out.1
                 have hf45:=HF4.out.then hf5 HF4.out.size
                 obtain ⟨hR5,hRl5⟩:=ROW.out w5 hf45
                 have HR5:Hid (w5.heap[w.heap.size]? = some (.cells #[.int .i64 0,.int .i64 0,.slice none 0 0] 39 (0,0))):=hR5
                 have hNl5:w.heap.size+1<w5.heap.size:=hI5.1
                 have HFN:Hid _:=FIN.out w5 n (.slice a n.kids.length cp) 3 (t::r) st4 HSG.out hp5 hf45 (HZ4.out.fr hf5) (.inl ⟨by decide,HE.out⟩)
                 have t0:w5.cell? ⟨(w.heap.size+1),0,none⟩=some (.int .i64 n.k):=cell_of_row _ _ 0 _ _ _ hT5b
                 have tf0:w5.frozen? ⟨(w.heap.size+1),0,none⟩=false:=frozen_of_row _ _ 0 _ _ hT5b
                 have t1:w5.cell? ⟨(w.heap.size+1),1,none⟩=some (.int .i64 n.s):=cell_of_row _ _ 1 _ _ _ hT5b
                 have tf1:w5.frozen? ⟨(w.heap.size+1),1,none⟩=false:=frozen_of_row _ _ 1 _ _ hT5b
                 have t2:w5.cell? ⟨(w.heap.size+1),2,none⟩=some (.slice a n.kids.length cp):=cell_of_row _ _ 2 _ _ _ hT5b
                 have tf2:w5.frozen? ⟨(w.heap.size+1),2,none⟩=false:=frozen_of_row _ _ 2 _ _ hT5b
                 have d0:w5.cell? ⟨w.heap.size,0,none⟩=some (.int .i64 0):=cell_of_row _ _ 0 _ _ _ hR5
                 have df0:w5.frozen? ⟨w.heap.size,0,none⟩=false:=frozen_of_row _ _ 0 _ _ hR5
                 have d1:w5.cell? ⟨w.heap.size,1,none⟩=some (.int .i64 0):=cell_of_row _ _ 1 _ _ _ hR5
                 have df1:w5.frozen? ⟨w.heap.size,1,none⟩=false:=frozen_of_row _ _ 1 _ _ hR5
                 have d2:w5.cell? ⟨w.heap.size,2,none⟩=some (.slice none 0 0):=cell_of_row _ _ 2 _ _ _ hR5
                 have df2:w5.frozen? ⟨w.heap.size,2,none⟩=false:=frozen_of_row _ _ 2 _ _ hR5
                 clear hp5 hf5 hT5 hI5 hT5b hf45 hR5
                 go_wp2
                 refine bodyPost_ret (results_row_one rfl _ _ w.heap.size 39 #[.int .i64 n.k,.int .i64 n.s,.slice a n.kids.length cp] (0,0) _ rfl ?_ Tryz.underlying39 rfl (by kernel_rfl)) rfl ?_
                 · exact set3_row HR5.out _ _ _
                 exact HFN.out
               · have HE:Hid (q=signF f (j+1) ⟨5,0,[n]⟩ r st4):=by
                  show _=_
                  rw [HXQ.out,signF_on hkn h3,hkt];rfl
                 have h3':decide ((j:Int) ≥ 3)=false:=by simp;omega
                 have hj2:j<=2:=by omega
                 obtain ⟨kk,hkk,c1,f1,hp5⟩:=HP4.out.adv hk4
                 have hf5:Fr (w3.alloc (.cells #[.int .i64 t.k,.int .i64 (t.p:Int),.string (strOfNums t.t),.slice va t.s.length vc] 54)).heap.size P (w3.alloc (.cells #[.int .i64 t.k,.int .i64 (t.p:Int),.string (strOfNums t.t),.slice va t.s.length vc] 54)) ((w3.alloc (.cells #[.int .i64 t.k,.int .i64 (t.p:Int),.string (strOfNums t.t),.slice va t.s.length vc] 54)).setCell ⟨P,1,none⟩ (.int .i64 ((kk:Int)+1))):=fr_own (w3.alloc (.cells #[.int .i64 t.k,.int .i64 (t.p:Int),.string (strOfNums t.t),.slice va t.s.length vc] 54)) 1 (by decide) _
                 obtain ⟨hT5,hI5⟩:=hf5.keep (w.heap.size+1) HT4.out.2.1 HT4.out.2
                 have hz5:=HZ4.out.fr hf5
                 have hF5:=HF4.out.then hf5 HF4.out.size
                 have hT5b:=hT5.trans HT4.out.1
                 have hcm:(w3.alloc (.cells #[.int .i64 t.k,.int .i64 (t.p:Int),.string (strOfNums t.t),.slice va t.s.length vc] 54)).setCell ⟨P,1,none⟩ (.int .i64 ((kk:Int)+1))=((w3.setCell ⟨P,1,none⟩ (.int .i64 ((kk:Int)+1))).alloc (.cells #[.int .i64 t.k,.int .i64 (t.p:Int),.string (strOfNums t.t),.slice va t.s.length vc] 54)):=World.setCell_alloc_past _ P 1 _ hPl3
                 rw [hcm] at hp5 hz5 hF5 hT5b hI5
                 have HT5:Hid (((w3.setCell ⟨P,1,none⟩ (.int .i64 ((kk:Int)+1))).alloc (.cells #[.int .i64 t.k,.int .i64 (t.p:Int),.string (strOfNums t.t),.slice va t.s.length vc] 54)).heap[w.heap.size+1]? = some (.cells #[.int .i64 n.k,.int .i64 n.s,.slice a n.kids.length cp] 39 (0,0))/\Im NoX ((w3.setCell ⟨P,1,none⟩ (.int .i64 ((kk:Int)+1))).alloc (.cells #[.int .i64 t.k,.int .i64 (t.p:Int),.string (strOfNums t.t),.slice va t.s.length vc] 54)) P (w.heap.size+1)):=⟨hT5b,hI5⟩
                 have HP5:Hid (Pa c (fun k=>(X k\/k=w.heap.size)\/k=w.heap.size+1) P ((w3.setCell ⟨P,1,none⟩ (.int .i64 ((kk:Int)+1))).alloc (.cells #[.int .i64 t.k,.int .i64 (t.p:Int),.string (strOfNums t.t),.slice va t.s.length vc] 54)) r st4 0):=hp5
                 have HZ5:Hid (KdX (fun k=>w.heap.size+2<=k/\Im (fun k=>(X k\/k=w.heap.size)\/k=w.heap.size+1) ((w3.setCell ⟨P,1,none⟩ (.int .i64 ((kk:Int)+1))).alloc (.cells #[.int .i64 t.k,.int .i64 (t.p:Int),.string (strOfNums t.t),.slice va t.s.length vc] 54)) P k) ((w3.setCell ⟨P,1,none⟩ (.int .i64 ((kk:Int)+1))).alloc (.cells #[.int .i64 t.k,.int .i64 (t.p:Int),.string (strOfNums t.t),.slice va t.s.length vc] 54)) (.slice a n.kids.length cp) n.kids):=hz5
                 have HF5:Hid (Fr (ndW w).heap.size P (ndW w) ((w3.setCell ⟨P,1,none⟩ (.int .i64 ((kk:Int)+1))).alloc (.cells #[.int .i64 t.k,.int .i64 (t.p:Int),.string (strOfNums t.t),.slice va t.s.length vc] 54))):=hF5
                 have hPN:P≠w.heap.size+1:=Ne.symm HT4.out.2.2.1
                 have HCN2:Hid (Chain (j+1) ⟨5,0,[n]⟩):=⟨rfl,n,rfl,HCN.out⟩
                 have HSZ5:Hid (((w3.setCell ⟨P,1,none⟩ (.int .i64 ((kk:Int)+1))).alloc (.cells #[.int .i64 t.k,.int .i64 (t.p:Int),.string (strOfNums t.t),.slice va t.s.length vc] 54)).heap.size=w3.heap.size+1):=by show _=_;simp [World.setCell]
                 have c13:w3.cell? ⟨P,1,none⟩=some (.int .i64 (kk:Int)):=((below_alloc w3 _).cell (p:=⟨P,1,none⟩) hPl3).symm.trans c1
                 have f13:w3.frozen? ⟨P,1,none⟩=false:=(World.frozen?_of_block (a:=⟨P,1,none⟩) ((below_alloc w3 _).block P hPl3)).symm.trans f1
                 clear hz5 hF5 hT5b hcm c1 f1
                 clear h2 q42 q43 q63 hkt hkn hk4 h3 hp5 hf5 hT5 hI5
                 go_wp2
                 go_roundw
                 case rel =>
                  have hW:((set3 (w3.setCell ⟨P,1,none⟩ (.int .i64 ((kk:Int)+1))) (w.heap.size+1) (.int .i64 5) (.int .i64 0) (.slice (some ⟨w3.heap.size+1,0,none⟩) 1 1)).alloc (.cells #[.int .i64 t.k,.int .i64 (t.p:Int),.string (strOfNums t.t),.slice va t.s.length vc] 54)).alloc (.cells #[.int .i64 n.k,.int .i64 n.s,.slice a n.kids.length cp] 39)=set3 (((w3.setCell ⟨P,1,none⟩ (.int .i64 ((kk:Int)+1))).alloc (.cells #[.int .i64 t.k,.int .i64 (t.p:Int),.string (strOfNums t.t),.slice va t.s.length vc] 54)).alloc (.cells #[.int .i64 n.k,.int .i64 n.s,.slice a n.kids.length cp] 39)) (w.heap.size+1) (.int .i64 5) (.int .i64 0) (.slice (some ⟨w3.heap.size+1,0,none⟩) 1 1):=by
                   rw [set3_alloc (w3.setCell ⟨P,1,none⟩ (.int .i64 ((kk:Int)+1))) (w.heap.size+1) _ _ _ _ (by simpa [World.setCell] using hNl3),set3_alloc _ (w.heap.size+1) _ _ _ _ (by simp [World.setCell];omega)]
                  rw [hW]
                  clear hW
                  obtain ⟨w5,hw5⟩ :∃w5,w5=((w3.setCell ⟨P,1,none⟩ (.int .i64 ((kk:Int)+1))).alloc (.cells #[.int .i64 t.k,.int .i64 (t.p:Int),.string (strOfNums t.t),.slice va t.s.length vc] 54)):=⟨_,rfl⟩
                  have hT5:=HT5.out
                  have hp5:=HP5.out
                  have hz5:=HZ5.out
                  have hf5:=HF5.out
                  have hs5:=HSZ5.out
                  rw [<- hw5] at hT5 hp5 hz5 hf5 hs5 ⊢
                  have hlT5:w.heap.size+1<w5.heap.size:=by omega
                  have hB6:=below_alloc w5 (.cells #[.int .i64 n.k,.int .i64 n.s,.slice a n.kids.length cp] 39)
                  have hf6:=hp5.fr hB6
                  have hp6:=hp5.below hB6
                  obtain ⟨hT6,hI6⟩:=hf6.keep (w.heap.size+1) hlT5 hT5.2
                  have hS6:=heap_new' w5 (.cells #[.int .i64 n.k,.int .i64 n.s,.slice a n.kids.length cp] 39)
                  have hIS:=hp5.fresh hB6 w5.heap.size (Nat.le_refl _) (by simp)
                  have hSne:w5.heap.size≠w.heap.size+1:=by omega
                  have hf56:=hf5.then hf6 hf5.size
                  refine ⟨j+1,f,⟨5,0,[n]⟩,some ⟨w3.heap.size+1,0,none⟩,1,r,0,by go_num,by omega,by have:=HJF.out;omega,HCN2,.inr ⟨rfl,HE.out⟩,?_,?_,?_,?_,?_⟩
                  · exact set3_row (hT6.trans hT5.1) _ _ _
                  · exact set3_im hPN _ _ _ hI6
                  · rw [<- hs5]
                    refine KdX.one (z := .slice a n.kids.length cp) ((set3_block _ _ _ _ _ _ hSne).trans hS6) ⟨by omega,set3_im hPN _ _ _ hIS⟩ ?_
                    exact (hz5.fr hf6).to (fun k hk=>⟨set3_block _ _ _ _ _ k (fun q=>hk.2.2.2.2 (.inr q)),hk.1,set3_im hPN _ _ _ hk.2⟩)
                  · exact hp6.set3 (.inr rfl) hI6 _ _ _
                  · exact hf56.trans (set3_fr _ HLE.out hPN _ _ _)
                 case measure=>simp [intOf];omega
             · rw [decide_eq_false q63] at s63
               have HKK:Hid (q = .inr (n,t::r,st4)):=by
                show _=_
                rw [HXQ.out];unfold signF;rw [if_pos (show kindT (hdT (t::r))=0 by simp [kindT,tkSign,hdT,q42,q43,q63])]
               have HFN:Hid _:=FIN.out (w3.alloc (.cells #[.int .i64 t.k,.int .i64 (t.p:Int),.string (strOfNums t.t),.slice va t.s.length vc] 54)) n (.slice a n.kids.length cp) 0 (t::r) st4 HSG.out HP4.out HF4.out HZ4.out (.inr ⟨rfl,HKK.out⟩)
               clear h2 q42 q43 q63
               go_wp2
               refine bodyPost_ret (results_row_one rfl _ _ w.heap.size 39 #[.int .i64 n.k,.int .i64 n.s,.slice a n.kids.length cp] (0,0) _ rfl ?_ Tryz.underlying39 rfl (by kernel_rfl)) rfl ?_
               · rw [set3_alloc w3 w.heap.size _ _ _ _ hRl3];exact set3_row HR4.out _ _ _
               rw [set3_alloc w3 w.heap.size _ _ _ _ hRl3]
               exact HFN.out
       · have h2':(t.k != 2)=true:=by simpa using h2
         have HKK:Hid (q = .inr (n,t::r,st4)):=by
          show _=_
          rw [HXQ.out];unfold signF;rw [if_pos (show kindT (hdT (t::r))=0 by simp [kindT,tkSign,hdT,h2])]
         have HFN:Hid _:=FIN.out (w3.alloc (.cells #[.int .i64 t.k,.int .i64 (t.p:Int),.string (strOfNums t.t),.slice va t.s.length vc] 54)) n (.slice a n.kids.length cp) 0 (t::r) st4 HSG.out HP4.out HF4.out HZ4.out (.inr ⟨rfl,HKK.out⟩)
         clear h2 s42 s43 s63
         go_wp2
         refine bodyPost_ret (results_row_one rfl _ _ w.heap.size 39 #[.int .i64 n.k,.int .i64 n.s,.slice a n.kids.length cp] (0,0) _ rfl ?_ Tryz.underlying39 rfl (by kernel_rfl)) rfl ?_
         · rw [set3_alloc w3 w.heap.size _ _ _ _ hRl3];exact set3_row HR4.out _ _ _
         rw [set3_alloc w3 w.heap.size _ _ _ _ hRl3]
         exact HFN.out
 | false =>
  rw [s40] at h1
  have HE1:Hid (q=sgM (seM st t r (setM c.N t))):=by
   show _=_
   rw [HQ.out,partM_set s40]
  go_wp2_with fail
  refine h1.mono ?_
  rintro e w1 ⟨rfl,hB1⟩
  clear h1
  have HP1:Hid (Pa c (fun k=>(X k\/k=w.heap.size)\/k=w.heap.size+1) P w1 (t::r) st 0):=HP0.out.below hB1
  have HF1:Hid (Fr (ndW (ndW w)).heap.size P (ndW (ndW w)) w1):=HP0.out.fr hB1
  have h3:=rset_any c _ P w1 t r st 0 HP1.out
  clear hB1
  go_wp2_with fail
  refine h3.mono ?_
  rintro e w3 ⟨hf3,⟨_,s,v,hes,hs,hr,rfl,hp3⟩ | ⟨rfl,x,hp3,hx⟩⟩
  · have HK:Hid (t.k≠4):=setM_end hes
    have HE2:Hid (q=sgM (plM t r (placeM st s))):=by
     show _=_
     rw [HE1.out,hes];rfl
    have h6:=rplace_any c _ P w3 (t::r) st hp3 v s hr hs
    have HF3:Hid (Fr (ndW (ndW w)).heap.size P (ndW (ndW w)) w3):=HF1.out.then hf3 HF1.out.size
    obtain ⟨va,vc,rfl⟩:=hr.slice
    obtain ⟨o,ho⟩ :∃o,o=placeM st s:=⟨_,rfl⟩
    rw [<- ho] at h6 HE2
    clear h3 hes hs hr hf3 ho HE1 hp3
    go_wp2_with fail
    refine h6.mono ?_
    rintro e w4 ⟨hf4,⟨rfl,rfl,hp4⟩ | ⟨i,st4,rfl,rfl,hp4⟩⟩
    · clear h6
      have hF4:=HF3.out.then hf4 HF3.out.size
      obtain ⟨hT4,hI4⟩:=NROW.out w4 hF4
      have hPN:P≠w.heap.size+1:=Ne.symm hI4.2.1
      have hp5:=hp4.set3 (.inr rfl) hI4 (.int .i64 1) (.int .i64 0) (.slice none 0 0)
      have hF5:=(TOF.out w4 hF4).trans (set3_fr w4 HLE.out hPN (.int .i64 1) (.int .i64 0) (.slice none 0 0))
      have hT5:=set3_row hT4 (.int .i64 1) (.int .i64 0) (.slice none 0 0)
      have hI5:=set3_im hPN (.int .i64 1) (.int .i64 0) (.slice none 0 0) hI4
      have hPl4:=hp4.lt
      have hNl4:w.heap.size+1<w4.heap.size:=hI4.1
      have t0:w4.cell? ⟨(w.heap.size+1),0,none⟩=some (.int .i64 0):=cell_of_row _ _ 0 _ _ _ hT4
      have tf0:w4.frozen? ⟨(w.heap.size+1),0,none⟩=false:=frozen_of_row _ _ 0 _ _ hT4
      have t1:w4.cell? ⟨(w.heap.size+1),1,none⟩=some (.int .i64 0):=cell_of_row _ _ 1 _ _ _ hT4
      have tf1:w4.frozen? ⟨(w.heap.size+1),1,none⟩=false:=frozen_of_row _ _ 1 _ _ hT4
      have t2:w4.cell? ⟨(w.heap.size+1),2,none⟩=some (.slice none 0 0):=cell_of_row _ _ 2 _ _ _ hT4
      have tf2:w4.frozen? ⟨(w.heap.size+1),2,none⟩=false:=frozen_of_row _ _ 2 _ _ hT4
      obtain ⟨c5,_,_⟩:=hp4.dep
      obtain ⟨nn,hnn⟩ :∃nn:Nd,nn=⟨1,0,[]⟩:=⟨_,rfl⟩
      have HE3:Hid (q = .inl (t::r,3)):=HE2.out
      have HP:Hid (Pa c (fun k=>(X k\/k=w.heap.size)\/k=w.heap.size+1) P (set3 w4 (w.heap.size+1) (.int .i64 1) (.int .i64 0) (.slice none 0 0)) (t::r) st 3):=hp5
      have HF:Hid (Fr (ndW w).heap.size P (ndW w) (set3 w4 (w.heap.size+1) (.int .i64 1) (.int .i64 0) (.slice none 0 0))):=hF5
      obtain ⟨hR5,hRl5⟩:=ROW.out _ hF5
      have HR5:Hid ((set3 w4 (w.heap.size+1) (.int .i64 1) (.int .i64 0) (.slice none 0 0)).heap[w.heap.size]? = some (.cells #[.int .i64 0,.int .i64 0,.slice none 0 0] 39 (0,0))):=hR5
      have HT5:Hid ((set3 w4 (w.heap.size+1) (.int .i64 1) (.int .i64 0) (.slice none 0 0)).heap[w.heap.size+1]? = some (.cells #[.int .i64 1,.int .i64 0,.slice none 0 0] 39 (0,0))/\Im NoX (set3 w4 (w.heap.size+1) (.int .i64 1) (.int .i64 0) (.slice none 0 0)) P (w.heap.size+1)):=⟨hT5,hI5⟩
      have he:=rends_any (fun _=>False) 0 (by decide) ⟨1,0,[]⟩ (.slice none 0 0) (set3 w4 (w.heap.size+1) (.int .i64 1) (.int .i64 0) (.slice none 0 0)) (fun k hk=>hk.elim) (KdX.nil _ _) rfl
      unfold ndV at he
      clear hT4 hI4 hp5 hF5 hT5 hI5 hF4 hR5 hp4 hf4 HE2 hnn nn
      go_wp2_with fail
      refine he.mono ?_
      rintro e w6 ⟨rfl,hB6⟩
      clear he c5
      clear t0 tf0 t1 tf1 t2 tf2
      have hp6:=HP.out.below hB6
      have hf6:=HP.out.fr hB6
      have hF6:=HF.out.then hf6 HF.out.size
      obtain ⟨hT6,hI6⟩:=hf6.keep (w.heap.size+1) HT5.out.2.1 HT5.out.2
      have hT6b:=hT6.trans HT5.out.1
      obtain ⟨hR6,hRl6⟩:=ROW.out w6 hF6
      have HR6:Hid (w6.heap[w.heap.size]? = some (.cells #[.int .i64 0,.int .i64 0,.slice none 0 0] 39 (0,0))):=hR6
      have HFN:Hid _:=FIN.out w6 ⟨1,0,[]⟩ (.slice none 0 0) 3 (t::r) st ⟨0,by omega,rfl⟩ hp6 hF6 (KdX.nil _ _) (.inl ⟨by decide,HE3.out⟩)
      have hNl6:w.heap.size+1<w6.heap.size:=hI6.1
      have hPl6:=hp6.lt
      obtain ⟨c56,_,_⟩:=hp6.dep
      have t0:w6.cell? ⟨(w.heap.size+1),0,none⟩=some (.int .i64 1):=cell_of_row _ _ 0 _ _ _ hT6b
      have tf0:w6.frozen? ⟨(w.heap.size+1),0,none⟩=false:=frozen_of_row _ _ 0 _ _ hT6b
      have t1:w6.cell? ⟨(w.heap.size+1),1,none⟩=some (.int .i64 0):=cell_of_row _ _ 1 _ _ _ hT6b
      have tf1:w6.frozen? ⟨(w.heap.size+1),1,none⟩=false:=frozen_of_row _ _ 1 _ _ hT6b
      have t2:w6.cell? ⟨(w.heap.size+1),2,none⟩=some (.slice none 0 0):=cell_of_row _ _ 2 _ _ _ hT6b
      have tf2:w6.frozen? ⟨(w.heap.size+1),2,none⟩=false:=frozen_of_row _ _ 2 _ _ hT6b
      have d0:w6.cell? ⟨w.heap.size,0,none⟩=some (.int .i64 0):=cell_of_row _ _ 0 _ _ _ hR6
      have df0:w6.frozen? ⟨w.heap.size,0,none⟩=false:=frozen_of_row _ _ 0 _ _ hR6
      have d1:w6.cell? ⟨w.heap.size,1,none⟩=some (.int .i64 0):=cell_of_row _ _ 1 _ _ _ hR6
      have df1:w6.frozen? ⟨w.heap.size,1,none⟩=false:=frozen_of_row _ _ 1 _ _ hR6
      have d2:w6.cell? ⟨w.heap.size,2,none⟩=some (.slice none 0 0):=cell_of_row _ _ 2 _ _ _ hR6
      have df2:w6.frozen? ⟨w.heap.size,2,none⟩=false:=frozen_of_row _ _ 2 _ _ hR6
      clear hp6 hf6 hF6 hT6 hI6 hT6b hR6 HP HF HT5 HR5 hB6
      go_wp2
      go_loopw [9] (fun v wr=>wr=w6/\v = .int .i64 0) (fun _ _=>0)
      case atStart=>exact ⟨rfl,rfl⟩
      case round =>
       obtain ⟨rfl,rfl⟩:=hrel
       go_wp2
       refine bodyPost_ret (results_row_one rfl _ _ w.heap.size 39 #[.int .i64 1,.int .i64 0,.slice none 0 0] (0,0) _ rfl ?_ Tryz.underlying39 rfl (by kernel_rfl)) rfl ?_
       · exact set3_row HR6.out _ _ _
       exact HFN.out
    · clear h6
      have hF4:=HF3.out.then hf4 HF3.out.size
      obtain ⟨hT4,hI4⟩:=NROW.out w4 hF4
      have hPN:P≠w.heap.size+1:=Ne.symm hI4.2.1
      have hp5:=hp4.set3 (.inr rfl) hI4 (.int .i64 1) (.int .i64 (i:Int)) (.slice none 0 0)
      have hF5:=(TOF.out w4 hF4).trans (set3_fr w4 HLE.out hPN (.int .i64 1) (.int .i64 (i:Int)) (.slice none 0 0))
      have hT5:=set3_row hT4 (.int .i64 1) (.int .i64 (i:Int)) (.slice none 0 0)
      have hI5:=set3_im hPN (.int .i64 1) (.int .i64 (i:Int)) (.slice none 0 0) hI4
      have hPl4:=hp4.lt
      have hNl4:w.heap.size+1<w4.heap.size:=hI4.1
      have t0:w4.cell? ⟨(w.heap.size+1),0,none⟩=some (.int .i64 0):=cell_of_row _ _ 0 _ _ _ hT4
      have tf0:w4.frozen? ⟨(w.heap.size+1),0,none⟩=false:=frozen_of_row _ _ 0 _ _ hT4
      have t1:w4.cell? ⟨(w.heap.size+1),1,none⟩=some (.int .i64 0):=cell_of_row _ _ 1 _ _ _ hT4
      have tf1:w4.frozen? ⟨(w.heap.size+1),1,none⟩=false:=frozen_of_row _ _ 1 _ _ hT4
      have t2:w4.cell? ⟨(w.heap.size+1),2,none⟩=some (.slice none 0 0):=cell_of_row _ _ 2 _ _ _ hT4
      have tf2:w4.frozen? ⟨(w.heap.size+1),2,none⟩=false:=frozen_of_row _ _ 2 _ _ hT4
      obtain ⟨c5,_,_⟩:=hp4.dep
      obtain ⟨kk,hkk,c1,f1,hp6⟩:=hp5.adv HK.out
      have hf6:Fr (set3 w4 (w.heap.size+1) (.int .i64 1) (.int .i64 (i:Int)) (.slice none 0 0)).heap.size P (set3 w4 (w.heap.size+1) (.int .i64 1) (.int .i64 (i:Int)) (.slice none 0 0)) ((set3 w4 (w.heap.size+1) (.int .i64 1) (.int .i64 (i:Int)) (.slice none 0 0)).setCell ⟨P,1,none⟩ (.int .i64 ((kk:Int)+1))):=fr_own _ 1 (by decide) _
      obtain ⟨hT6,hI6⟩:=hf6.keep (w.heap.size+1) hI5.1 hI5
      have hF6:=hF5.then hf6 hF5.size
      obtain ⟨w6,hw6⟩ :∃w6,w6=(set3 w4 (w.heap.size+1) (.int .i64 1) (.int .i64 (i:Int)) (.slice none 0 0)).setCell ⟨P,1,none⟩ (.int .i64 ((kk:Int)+1)):=⟨_,rfl⟩
      have hT6b:=hT6.trans hT5
      rw [<- hw6] at hp6 hF6 hI6 hT6b
      have HP:Hid (Pa c (fun k=>(X k\/k=w.heap.size)\/k=w.heap.size+1) P w6 r st4 0):=hp6
      have HF:Hid (Fr (ndW w).heap.size P (ndW w) w6):=hF6
      obtain ⟨n4,hn4⟩ :∃n4:Nd,n4=⟨1,i,[]⟩:=⟨_,rfl⟩
      have HTN:Hid (w6.heap[w.heap.size+1]? = some (.cells #[.int .i64 n4.k,.int .i64 n4.s,.slice none n4.kids.length 0] 39 (0,0))/\Im NoX w6 P (w.heap.size+1)):=by rw [hn4];exact ⟨hT6b,hI6⟩
      have HZ:Hid (KdX (fun k=>w.heap.size+2<=k/\Im (fun k=>(X k\/k=w.heap.size)\/k=w.heap.size+1) w6 P k) w6 (.slice none n4.kids.length 0) n4.kids):=by rw [hn4];exact KdX.nil _ _
      have HCH:Hid ((0:Nat)<=3/\Chain 0 n4):=by rw [hn4];exact ⟨by decide,rfl⟩
      have HCHN:Hid (Chain 0 n4):=HCH.out.2
      have HXG:Hid (q=signF 4 0 n4 r st4):=by
       show _=_
       rw [HE2.out,hn4];rfl
      have HW6:Hid ((set3 w4 (w.heap.size+1) (.int .i64 1) (.int .i64 (i:Int)) (.slice none 0 0)).setCell ⟨P,1,none⟩ (.int .i64 ((kk:Int)+1))=w6):=hw6.symm
      have HN4:Hid (n4=⟨1,i,[]⟩):=hn4
      have hPl6:=HP.out.lt
      have hk4n:n4.k=1/\n4.s=i/\n4.kids.length=0:=by rw [hn4];exact ⟨rfl,rfl,rfl⟩
      have hch:=HCH.out.2
      have hc3:=HCH.out.1
      have he:=rends_any _ 0 hc3 n4 (.slice none n4.kids.length 0) w6 (fun k hk=>hk.2.1) HZ.out hch
      unfold ndV at he
      rw [hk4n.1,hk4n.2.1,hk4n.2.2,hw6] at he
      clear hT4 hI4 hp5 hF5 hT5 hI5 hF4 hp4 hf4 hp6 hf6 hT6 hI6 hT6b hF6 hw6 hn4 hk4n hch
      go_wp2_with fail
      refine he.mono ?_
      rintro e we ⟨rfl,hBe⟩
      rw [HW6.out] at hBe
      clear he c5 c1 f1 HW6
      clear t0 tf0 t1 tf1 t2 tf2
      have hNl:w.heap.size+1<w6.heap.size:=HTN.out.2.1
      have hpe:=HP.out.below hBe
      have hfe:=HP.out.fr hBe
      obtain ⟨hTe,hIe⟩:=hfe.keep (w.heap.size+1) hNl HTN.out.2
      have hTe2:=hTe.trans HTN.out.1
      have hze:=HZ.out.fr hfe
      have hFe:=HF.out.then hfe HF.out.size
      clear hTe hfe hBe HP HZ HF HTN HCH hNl
      go_wp2
      go_loopw [9] (fun v wr=>∃(j f:Nat) (n:Nd) (a:Option Addr) (cp:Nat) (r:List Tok) (x:Nat),v = .int .i64 (j:Int)/\j<=3/\4<=f+j/\Hid (Chain j n)/\Hid ((x≠0/\q = .inl (r,((x:Nat):Int)))\/(x=0/\q=signF f j n r st4))/\wr.heap[w.heap.size+1]? = some (.cells #[.int .i64 n.k,.int .i64 n.s,.slice a n.kids.length cp] 39 (0,0))/\Im NoX wr P (w.heap.size+1)/\KdX (fun k=>w.heap.size+2<=k/\Im (fun k=>(X k\/k=w.heap.size)\/k=w.heap.size+1) wr P k) wr (.slice a n.kids.length cp) n.kids/\Pa c (fun k=>(X k\/k=w.heap.size)\/k=w.heap.size+1) P wr r st4 x/\Fr (ndW w).heap.size P (ndW w) wr) (fun v _=>4-(intOf v).toNat)
      case atStart=>exact ⟨0,4,n4,none,0,r,0,rfl,hc3,by omega,HCHN,(.inr ⟨rfl,HXG.out⟩),hTe2,hIe,hze,hpe,hFe⟩
      case round =>
       clear HCHN HXG
       obtain ⟨j,f,n,a,cp,r,x,rfl,hj3,hfj,HCN,HG,hTN,hIN,hz,hp,hf⟩:=hrel
       obtain ⟨f,rfl⟩ :∃m,f=m+1:=⟨f-1,by omega⟩
       obtain ⟨c5,_,_⟩:=hp.dep
       have hPl1:=hp.lt
       obtain ⟨hRR,hRl⟩:=ROW.out wr hf
       have hNl:w.heap.size+1<wr.heap.size:=hIN.1
       have HTN:Hid (wr.heap[w.heap.size+1]? = some (.cells #[.int .i64 n.k,.int .i64 n.s,.slice a n.kids.length cp] 39 (0,0))/\Im NoX wr P (w.heap.size+1)):=⟨hTN,hIN⟩
       have HP:Hid (Pa c (fun k=>(X k\/k=w.heap.size)\/k=w.heap.size+1) P wr r st4 x):=hp
       have HZ:Hid (KdX (fun k=>w.heap.size+2<=k/\Im (fun k=>(X k\/k=w.heap.size)\/k=w.heap.size+1) wr P k) wr (.slice a n.kids.length cp) n.kids):=hz
       have HF:Hid (Fr (ndW w).heap.size P (ndW w) wr):=hf
       have HRR:Hid (wr.heap[w.heap.size]? = some (.cells #[.int .i64 0,.int .i64 0,.slice none 0 0] 39 (0,0))):=hRR
       have HSG:Hid (SgOk n):=⟨j,hj3,HCN.out⟩
       have HJF:Hid (4<=f+1+j):=hfj
       clear hz hp hf hIN hfj
       rcases HG.out with ⟨hx0,hxq⟩ | ⟨rfl,hxq⟩
       · have hx':((x:Int)==0)=false:=by simp;omega
         have t0:wr.cell? ⟨(w.heap.size+1),0,none⟩=some (.int .i64 n.k):=cell_of_row _ _ 0 _ _ _ hTN
         have tf0:wr.frozen? ⟨(w.heap.size+1),0,none⟩=false:=frozen_of_row _ _ 0 _ _ hTN
         have t1:wr.cell? ⟨(w.heap.size+1),1,none⟩=some (.int .i64 n.s):=cell_of_row _ _ 1 _ _ _ hTN
         have tf1:wr.frozen? ⟨(w.heap.size+1),1,none⟩=false:=frozen_of_row _ _ 1 _ _ hTN
         have t2:wr.cell? ⟨(w.heap.size+1),2,none⟩=some (.slice a n.kids.length cp):=cell_of_row _ _ 2 _ _ _ hTN
         have tf2:wr.frozen? ⟨(w.heap.size+1),2,none⟩=false:=frozen_of_row _ _ 2 _ _ hTN
         have d0:wr.cell? ⟨w.heap.size,0,none⟩=some (.int .i64 0):=cell_of_row _ _ 0 _ _ _ hRR
         have df0:wr.frozen? ⟨w.heap.size,0,none⟩=false:=frozen_of_row _ _ 0 _ _ hRR
         have d1:wr.cell? ⟨w.heap.size,1,none⟩=some (.int .i64 0):=cell_of_row _ _ 1 _ _ _ hRR
         have df1:wr.frozen? ⟨w.heap.size,1,none⟩=false:=frozen_of_row _ _ 1 _ _ hRR
         have d2:wr.cell? ⟨w.heap.size,2,none⟩=some (.slice none 0 0):=cell_of_row _ _ 2 _ _ _ hRR
         have df2:wr.frozen? ⟨w.heap.size,2,none⟩=false:=frozen_of_row _ _ 2 _ _ hRR
         have HFN:Hid _:=FIN.out wr n (.slice a n.kids.length cp) x r st4 HSG.out HP.out HF.out HZ.out (.inl ⟨hx0,hxq⟩)
         clear hTN hRR hx0 hxq HG
         go_wp2
         refine bodyPost_ret (results_row_one rfl _ _ w.heap.size 39 #[.int .i64 n.k,.int .i64 n.s,.slice a n.kids.length cp] (0,0) _ rfl ?_ Tryz.underlying39 rfl (by kernel_rfl)) rfl ?_
         · exact set3_row HRR.out _ _ _
         exact HFN.out
       · have HXQ:Hid (q=signF (f+1) j n r st4):=hxq
         obtain ⟨t,r,rfl⟩:=HP.out.ends.cons
         have hn:=now_any c _ P wr t r st4 0 HP.out
         obtain ⟨_,_,_,_,_,_,_,_,_,_,_,_,_,_,_,hby,_,_⟩:=HP.out.next
         have s42:((strOfNums t.t).toList==([42]:List UInt8))=decide (t.t=[42]):=strB_eq hby [42] (fun y hy=>by simp at hy;omega) rfl
         have s43:((strOfNums t.t).toList==([43]:List UInt8))=decide (t.t=[43]):=strB_eq hby [43] (fun y hy=>by simp at hy;omega) rfl
         have s63:((strOfNums t.t).toList==([63]:List UInt8))=decide (t.t=[63]):=strB_eq hby [63] (fun y hy=>by simp at hy;omega) rfl
         clear hTN hRR hxq HG hby
         go_wp2_with fail
         refine hn.mono ?_
         rintro e w3 ⟨v3,rfl,hr3,hB3⟩
         obtain ⟨va,vc,rfl⟩:=hr3.slice
         unfold tokV
         have hf3:=HP.out.fr hB3
         obtain ⟨hT3,hI3⟩:=hf3.keep (w.heap.size+1) hNl HTN.out.2
         have hT3b:=hT3.trans HTN.out.1
         obtain ⟨hR3,hRl3⟩:=ROW.out w3 (HF.out.then hf3 HF.out.size)
         have hPl3:=(HP.out.below hB3).lt
         have hNl3:w.heap.size+1<w3.heap.size:=hI3.1
         have t0:w3.cell? ⟨(w.heap.size+1),0,none⟩=some (.int .i64 n.k):=cell_of_row _ _ 0 _ _ _ hT3b
         have tf0:w3.frozen? ⟨(w.heap.size+1),0,none⟩=false:=frozen_of_row _ _ 0 _ _ hT3b
         have t1:w3.cell? ⟨(w.heap.size+1),1,none⟩=some (.int .i64 n.s):=cell_of_row _ _ 1 _ _ _ hT3b
         have tf1:w3.frozen? ⟨(w.heap.size+1),1,none⟩=false:=frozen_of_row _ _ 1 _ _ hT3b
         have t2:w3.cell? ⟨(w.heap.size+1),2,none⟩=some (.slice a n.kids.length cp):=cell_of_row _ _ 2 _ _ _ hT3b
         have tf2:w3.frozen? ⟨(w.heap.size+1),2,none⟩=false:=frozen_of_row _ _ 2 _ _ hT3b
         have d0:w3.cell? ⟨w.heap.size,0,none⟩=some (.int .i64 0):=cell_of_row _ _ 0 _ _ _ hR3
         have df0:w3.frozen? ⟨w.heap.size,0,none⟩=false:=frozen_of_row _ _ 0 _ _ hR3
         have d1:w3.cell? ⟨w.heap.size,1,none⟩=some (.int .i64 0):=cell_of_row _ _ 1 _ _ _ hR3
         have df1:w3.frozen? ⟨w.heap.size,1,none⟩=false:=frozen_of_row _ _ 1 _ _ hR3
         have d2:w3.cell? ⟨w.heap.size,2,none⟩=some (.slice none 0 0):=cell_of_row _ _ 2 _ _ _ hR3
         have df2:w3.frozen? ⟨w.heap.size,2,none⟩=false:=frozen_of_row _ _ 2 _ _ hR3
         have hB4:Below wr.heap.size wr (w3.alloc (.cells #[.int .i64 t.k,.int .i64 (t.p:Int),.string (strOfNums t.t),.slice va t.s.length vc] 54)):=below_after hB3 (below_alloc _ _)
         have hp4:=HP.out.below hB4
         have hf34:=HP.out.fr hB4
         obtain ⟨hT4,hI4⟩:=hf34.keep (w.heap.size+1) hNl HTN.out.2
         have hT4b:=hT4.trans HTN.out.1
         have hz4:=HZ.out.fr hf34
         have hf4:=HF.out.then hf34 HF.out.size
         obtain ⟨hR4,hRl4⟩:=ROW.out (w3.alloc (.cells #[.int .i64 t.k,.int .i64 (t.p:Int),.string (strOfNums t.t),.slice va t.s.length vc] 54)) hf4
         have HT4:Hid ((w3.alloc (.cells #[.int .i64 t.k,.int .i64 (t.p:Int),.string (strOfNums t.t),.slice va t.s.length vc] 54)).heap[w.heap.size+1]? = some (.cells #[.int .i64 n.k,.int .i64 n.s,.slice a n.kids.length cp] 39 (0,0))/\Im NoX (w3.alloc (.cells #[.int .i64 t.k,.int .i64 (t.p:Int),.string (strOfNums t.t),.slice va t.s.length vc] 54)) P (w.heap.size+1)):=⟨hT4b,hI4⟩
         have HP4:Hid (Pa c (fun k=>(X k\/k=w.heap.size)\/k=w.heap.size+1) P (w3.alloc (.cells #[.int .i64 t.k,.int .i64 (t.p:Int),.string (strOfNums t.t),.slice va t.s.length vc] 54)) (t::r) st4 0):=hp4
         have HZ4:Hid (KdX (fun k=>w.heap.size+2<=k/\Im (fun k=>(X k\/k=w.heap.size)\/k=w.heap.size+1) (w3.alloc (.cells #[.int .i64 t.k,.int .i64 (t.p:Int),.string (strOfNums t.t),.slice va t.s.length vc] 54)) P k) (w3.alloc (.cells #[.int .i64 t.k,.int .i64 (t.p:Int),.string (strOfNums t.t),.slice va t.s.length vc] 54)) (.slice a n.kids.length cp) n.kids):=hz4
         have HF4:Hid (Fr (ndW w).heap.size P (ndW w) (w3.alloc (.cells #[.int .i64 t.k,.int .i64 (t.p:Int),.string (strOfNums t.t),.slice va t.s.length vc] 54))):=hf4
         have HR4:Hid ((w3.alloc (.cells #[.int .i64 t.k,.int .i64 (t.p:Int),.string (strOfNums t.t),.slice va t.s.length vc] 54)).heap[w.heap.size]? = some (.cells #[.int .i64 0,.int .i64 0,.slice none 0 0] 39 (0,0))):=hR4
         clear hn hr3 hB3 hB4 hp4 hf34 hT4 hI4 hT4b hz4 hf4 hR4 hRl4 HP HZ HF HRR HTN c5 hT3 hI3 hT3b hR3 hf3
         by_cases h2:t.k=2
         · have h2':(t.k != 2)=false:=by simpa using h2
           by_cases q42:t.t=[42]
           · rw [decide_eq_true q42] at s42
             have hkt:kindT (hdT (t::r))=3:=by simp [kindT,tkSign,hdT,h2,q42]
             have hkn:¬kindT (hdT (t::r))=0:=by rw [hkt];decide
             have hk4:t.k≠4:=by rw [h2];decide
             by_cases h3:j=3
             · have HE:Hid (q = .inl (t::r,3)):=by
                show _=_
                rw [HXQ.out];unfold signF;rw [if_neg hkn,if_pos h3]
               have h3':decide ((j:Int) ≥ 3)=true:=by simp;omega
               have hfl:=fail_any c _ P (w3.alloc (.cells #[.int .i64 t.k,.int .i64 (t.p:Int),.string (strOfNums t.t),.slice va t.s.length vc] 54)) st4 0 HP4.out 3 (by decide)
               simp only [if_true] at hfl
               clear h2 q42 s43 s63 hkt hkn hk4 h3
               clear t0 tf0 t1 tf1 t2 tf2 d0 df0 d1 df1 d2 df2
               go_wp2_with fail
               refine hfl.mono ?_
               rintro e w5 ⟨rfl,hp5,hf5⟩
               clear hfl
               obtain ⟨hT5,hI5⟩:=hf5.keep (w.heap.size+1) HT4.out.2.1 HT4.out.2
               have hT5b:=hT5.trans HT4.out.1
               have hf45:=HF4.out.then hf5 HF4.out.size
               obtain ⟨hR5,hRl5⟩:=ROW.out w5 hf45
               have HR5:Hid (w5.heap[w.heap.size]? = some (.cells #[.int .i64 0,.int .i64 0,.slice none 0 0] 39 (0,0))):=hR5
               have hNl5:w.heap.size+1<w5.heap.size:=hI5.1
               have HFN:Hid _:=FIN.out w5 n (.slice a n.kids.length cp) 3 (t::r) st4 HSG.out hp5 hf45 (HZ4.out.fr hf5) (.inl ⟨by decide,HE.out⟩)
               have t0:w5.cell? ⟨(w.heap.size+1),0,none⟩=some (.int .i64 n.k):=cell_of_row _ _ 0 _ _ _ hT5b
               have tf0:w5.frozen? ⟨(w.heap.size+1),0,none⟩=false:=frozen_of_row _ _ 0 _ _ hT5b
               have t1:w5.cell? ⟨(w.heap.size+1),1,none⟩=some (.int .i64 n.s):=cell_of_row _ _ 1 _ _ _ hT5b
               have tf1:w5.frozen? ⟨(w.heap.size+1),1,none⟩=false:=frozen_of_row _ _ 1 _ _ hT5b
               have t2:w5.cell? ⟨(w.heap.size+1),2,none⟩=some (.slice a n.kids.length cp):=cell_of_row _ _ 2 _ _ _ hT5b
               have tf2:w5.frozen? ⟨(w.heap.size+1),2,none⟩=false:=frozen_of_row _ _ 2 _ _ hT5b
               have d0:w5.cell? ⟨w.heap.size,0,none⟩=some (.int .i64 0):=cell_of_row _ _ 0 _ _ _ hR5
               have df0:w5.frozen? ⟨w.heap.size,0,none⟩=false:=frozen_of_row _ _ 0 _ _ hR5
               have d1:w5.cell? ⟨w.heap.size,1,none⟩=some (.int .i64 0):=cell_of_row _ _ 1 _ _ _ hR5
               have df1:w5.frozen? ⟨w.heap.size,1,none⟩=false:=frozen_of_row _ _ 1 _ _ hR5
               have d2:w5.cell? ⟨w.heap.size,2,none⟩=some (.slice none 0 0):=cell_of_row _ _ 2 _ _ _ hR5
               have df2:w5.frozen? ⟨w.heap.size,2,none⟩=false:=frozen_of_row _ _ 2 _ _ hR5
               clear hp5 hf5 hT5 hI5 hT5b hf45 hR5
               go_wp2
               refine bodyPost_ret (results_row_one rfl _ _ w.heap.size 39 #[.int .i64 n.k,.int .i64 n.s,.slice a n.kids.length cp] (0,0) _ rfl ?_ Tryz.underlying39 rfl (by kernel_rfl)) rfl ?_
               · exact set3_row HR5.out _ _ _
               exact HFN.out
             · have HE:Hid (q=signF f (j+1) ⟨3,0,[n]⟩ r st4):=by
                show _=_
                rw [HXQ.out,signF_on hkn h3,hkt];rfl
               have h3':decide ((j:Int) ≥ 3)=false:=by simp;omega
               have hj2:j<=2:=by omega
               obtain ⟨kk,hkk,c1,f1,hp5⟩:=HP4.out.adv hk4
               have hf5:Fr (w3.alloc (.cells #[.int .i64 t.k,.int .i64 (t.p:Int),.string (strOfNums t.t),.slice va t.s.length vc] 54)).heap.size P (w3.alloc (.cells #[.int .i64 t.k,.int .i64 (t.p:Int),.string (strOfNums t.t),.slice va t.s.length vc] 54)) ((w3.alloc (.cells #[.int .i64 t.k,.int .i64 (t.p:Int),.string (strOfNums t.t),.slice va t.s.length vc] 54)).setCell ⟨P,1,none⟩ (.int .i64 ((kk:Int)+1))):=fr_own (w3.alloc (.cells #[.int .i64 t.k,.int .i64 (t.p:Int),.string (strOfNums t.t),.slice va t.s.length vc] 54)) 1 (by decide) _
               obtain ⟨hT5,hI5⟩:=hf5.keep (w.heap.size+1) HT4.out.2.1 HT4.out.2
               have hz5:=HZ4.out.fr hf5
               have hF5:=HF4.out.then hf5 HF4.out.size
               have hT5b:=hT5.trans HT4.out.1
               have hcm:(w3.alloc (.cells #[.int .i64 t.k,.int .i64 (t.p:Int),.string (strOfNums t.t),.slice va t.s.length vc] 54)).setCell ⟨P,1,none⟩ (.int .i64 ((kk:Int)+1))=((w3.setCell ⟨P,1,none⟩ (.int .i64 ((kk:Int)+1))).alloc (.cells #[.int .i64 t.k,.int .i64 (t.p:Int),.string (strOfNums t.t),.slice va t.s.length vc] 54)):=World.setCell_alloc_past _ P 1 _ hPl3
               rw [hcm] at hp5 hz5 hF5 hT5b hI5
               have HT5:Hid (((w3.setCell ⟨P,1,none⟩ (.int .i64 ((kk:Int)+1))).alloc (.cells #[.int .i64 t.k,.int .i64 (t.p:Int),.string (strOfNums t.t),.slice va t.s.length vc] 54)).heap[w.heap.size+1]? = some (.cells #[.int .i64 n.k,.int .i64 n.s,.slice a n.kids.length cp] 39 (0,0))/\Im NoX ((w3.setCell ⟨P,1,none⟩ (.int .i64 ((kk:Int)+1))).alloc (.cells #[.int .i64 t.k,.int .i64 (t.p:Int),.string (strOfNums t.t),.slice va t.s.length vc] 54)) P (w.heap.size+1)):=⟨hT5b,hI5⟩
               have HP5:Hid (Pa c (fun k=>(X k\/k=w.heap.size)\/k=w.heap.size+1) P ((w3.setCell ⟨P,1,none⟩ (.int .i64 ((kk:Int)+1))).alloc (.cells #[.int .i64 t.k,.int .i64 (t.p:Int),.string (strOfNums t.t),.slice va t.s.length vc] 54)) r st4 0):=hp5
               have HZ5:Hid (KdX (fun k=>w.heap.size+2<=k/\Im (fun k=>(X k\/k=w.heap.size)\/k=w.heap.size+1) ((w3.setCell ⟨P,1,none⟩ (.int .i64 ((kk:Int)+1))).alloc (.cells #[.int .i64 t.k,.int .i64 (t.p:Int),.string (strOfNums t.t),.slice va t.s.length vc] 54)) P k) ((w3.setCell ⟨P,1,none⟩ (.int .i64 ((kk:Int)+1))).alloc (.cells #[.int .i64 t.k,.int .i64 (t.p:Int),.string (strOfNums t.t),.slice va t.s.length vc] 54)) (.slice a n.kids.length cp) n.kids):=hz5
               have HF5:Hid (Fr (ndW w).heap.size P (ndW w) ((w3.setCell ⟨P,1,none⟩ (.int .i64 ((kk:Int)+1))).alloc (.cells #[.int .i64 t.k,.int .i64 (t.p:Int),.string (strOfNums t.t),.slice va t.s.length vc] 54))):=hF5
               have hPN:P≠w.heap.size+1:=Ne.symm HT4.out.2.2.1
               have HCN2:Hid (Chain (j+1) ⟨3,0,[n]⟩):=⟨rfl,n,rfl,HCN.out⟩
               have HSZ5:Hid (((w3.setCell ⟨P,1,none⟩ (.int .i64 ((kk:Int)+1))).alloc (.cells #[.int .i64 t.k,.int .i64 (t.p:Int),.string (strOfNums t.t),.slice va t.s.length vc] 54)).heap.size=w3.heap.size+1):=by show _=_;simp [World.setCell]
               have c13:w3.cell? ⟨P,1,none⟩=some (.int .i64 (kk:Int)):=((below_alloc w3 _).cell (p:=⟨P,1,none⟩) hPl3).symm.trans c1
               have f13:w3.frozen? ⟨P,1,none⟩=false:=(World.frozen?_of_block (a:=⟨P,1,none⟩) ((below_alloc w3 _).block P hPl3)).symm.trans f1
               clear hz5 hF5 hT5b hcm c1 f1
               clear h2 q42 s43 s63 hkt hkn hk4 h3 hp5 hf5 hT5 hI5
               go_wp2
               go_roundw
               case rel =>
                have hW:((set3 (w3.setCell ⟨P,1,none⟩ (.int .i64 ((kk:Int)+1))) (w.heap.size+1) (.int .i64 3) (.int .i64 0) (.slice (some ⟨w3.heap.size+1,0,none⟩) 1 1)).alloc (.cells #[.int .i64 t.k,.int .i64 (t.p:Int),.string (strOfNums t.t),.slice va t.s.length vc] 54)).alloc (.cells #[.int .i64 n.k,.int .i64 n.s,.slice a n.kids.length cp] 39)=set3 (((w3.setCell ⟨P,1,none⟩ (.int .i64 ((kk:Int)+1))).alloc (.cells #[.int .i64 t.k,.int .i64 (t.p:Int),.string (strOfNums t.t),.slice va t.s.length vc] 54)).alloc (.cells #[.int .i64 n.k,.int .i64 n.s,.slice a n.kids.length cp] 39)) (w.heap.size+1) (.int .i64 3) (.int .i64 0) (.slice (some ⟨w3.heap.size+1,0,none⟩) 1 1):=by
                 rw [set3_alloc (w3.setCell ⟨P,1,none⟩ (.int .i64 ((kk:Int)+1))) (w.heap.size+1) _ _ _ _ (by simpa [World.setCell] using hNl3),set3_alloc _ (w.heap.size+1) _ _ _ _ (by simp [World.setCell];omega)]
                rw [hW]
                clear hW
                obtain ⟨w5,hw5⟩ :∃w5,w5=((w3.setCell ⟨P,1,none⟩ (.int .i64 ((kk:Int)+1))).alloc (.cells #[.int .i64 t.k,.int .i64 (t.p:Int),.string (strOfNums t.t),.slice va t.s.length vc] 54)):=⟨_,rfl⟩
                have hT5:=HT5.out
                have hp5:=HP5.out
                have hz5:=HZ5.out
                have hf5:=HF5.out
                have hs5:=HSZ5.out
                rw [<- hw5] at hT5 hp5 hz5 hf5 hs5 ⊢
                have hlT5:w.heap.size+1<w5.heap.size:=by omega
                have hB6:=below_alloc w5 (.cells #[.int .i64 n.k,.int .i64 n.s,.slice a n.kids.length cp] 39)
                have hf6:=hp5.fr hB6
                have hp6:=hp5.below hB6
                obtain ⟨hT6,hI6⟩:=hf6.keep (w.heap.size+1) hlT5 hT5.2
                have hS6:=heap_new' w5 (.cells #[.int .i64 n.k,.int .i64 n.s,.slice a n.kids.length cp] 39)
                have hIS:=hp5.fresh hB6 w5.heap.size (Nat.le_refl _) (by simp)
                have hSne:w5.heap.size≠w.heap.size+1:=by omega
                have hf56:=hf5.then hf6 hf5.size
                refine ⟨j+1,f,⟨3,0,[n]⟩,some ⟨w3.heap.size+1,0,none⟩,1,r,0,by go_num,by omega,by have:=HJF.out;omega,HCN2,.inr ⟨rfl,HE.out⟩,?_,?_,?_,?_,?_⟩
                · exact set3_row (hT6.trans hT5.1) _ _ _
                · exact set3_im hPN _ _ _ hI6
                · rw [<- hs5]
                  refine KdX.one (z := .slice a n.kids.length cp) ((set3_block _ _ _ _ _ _ hSne).trans hS6) ⟨by omega,set3_im hPN _ _ _ hIS⟩ ?_
                  exact (hz5.fr hf6).to (fun k hk=>⟨set3_block _ _ _ _ _ k (fun q=>hk.2.2.2.2 (.inr q)),hk.1,set3_im hPN _ _ _ hk.2⟩)
                · exact hp6.set3 (.inr rfl) hI6 _ _ _
                · exact hf56.trans (set3_fr _ HLE.out hPN _ _ _)
               case measure=>simp [intOf];omega
           · rw [decide_eq_false q42] at s42
             by_cases q43:t.t=[43]
             · rw [decide_eq_true q43] at s43
               have hkt:kindT (hdT (t::r))=4:=by simp [kindT,tkSign,hdT,h2,q43]
               have hkn:¬kindT (hdT (t::r))=0:=by rw [hkt];decide
               have hk4:t.k≠4:=by rw [h2];decide
               by_cases h3:j=3
               · have HE:Hid (q = .inl (t::r,3)):=by
                  show _=_
                  rw [HXQ.out];unfold signF;rw [if_neg hkn,if_pos h3]
                 have h3':decide ((j:Int) ≥ 3)=true:=by simp;omega
                 have hfl:=fail_any c _ P (w3.alloc (.cells #[.int .i64 t.k,.int .i64 (t.p:Int),.string (strOfNums t.t),.slice va t.s.length vc] 54)) st4 0 HP4.out 3 (by decide)
                 simp only [if_true] at hfl
                 clear h2 q42 q43 s63 hkt hkn hk4 h3
                 clear t0 tf0 t1 tf1 t2 tf2 d0 df0 d1 df1 d2 df2
                 go_wp2_with fail
                 refine hfl.mono ?_
                 rintro e w5 ⟨rfl,hp5,hf5⟩
                 clear hfl
                 obtain ⟨hT5,hI5⟩:=hf5.keep (w.heap.size+1) HT4.out.2.1 HT4.out.2
                 have hT5b:=hT5.trans HT4.out.1
                 have hf45:=HF4.out.then hf5 HF4.out.size
                 obtain ⟨hR5,hRl5⟩:=ROW.out w5 hf45
                 have HR5:Hid (w5.heap[w.heap.size]? = some (.cells #[.int .i64 0,.int .i64 0,.slice none 0 0] 39 (0,0))):=hR5
                 have hNl5:w.heap.size+1<w5.heap.size:=hI5.1
                 have HFN:Hid _:=FIN.out w5 n (.slice a n.kids.length cp) 3 (t::r) st4 HSG.out hp5 hf45 (HZ4.out.fr hf5) (.inl ⟨by decide,HE.out⟩)
                 have t0:w5.cell? ⟨(w.heap.size+1),0,none⟩=some (.int .i64 n.k):=cell_of_row _ _ 0 _ _ _ hT5b
                 have tf0:w5.frozen? ⟨(w.heap.size+1),0,none⟩=false:=frozen_of_row _ _ 0 _ _ hT5b
                 have t1:w5.cell? ⟨(w.heap.size+1),1,none⟩=some (.int .i64 n.s):=cell_of_row _ _ 1 _ _ _ hT5b
                 have tf1:w5.frozen? ⟨(w.heap.size+1),1,none⟩=false:=frozen_of_row _ _ 1 _ _ hT5b
                 have t2:w5.cell? ⟨(w.heap.size+1),2,none⟩=some (.slice a n.kids.length cp):=cell_of_row _ _ 2 _ _ _ hT5b
                 have tf2:w5.frozen? ⟨(w.heap.size+1),2,none⟩=false:=frozen_of_row _ _ 2 _ _ hT5b
                 have d0:w5.cell? ⟨w.heap.size,0,none⟩=some (.int .i64 0):=cell_of_row _ _ 0 _ _ _ hR5
                 have df0:w5.frozen? ⟨w.heap.size,0,none⟩=false:=frozen_of_row _ _ 0 _ _ hR5
                 have d1:w5.cell? ⟨w.heap.size,1,none⟩=some (.int .i64 0):=cell_of_row _ _ 1 _ _ _ hR5
                 have df1:w5.frozen? ⟨w.heap.size,1,none⟩=false:=frozen_of_row _ _ 1 _ _ hR5
                 have d2:w5.cell? ⟨w.heap.size,2,none⟩=some (.slice none 0 0):=cell_of_row _ _ 2 _ _ _ hR5
                 have df2:w5.frozen? ⟨w.heap.size,2,none⟩=false:=frozen_of_row _ _ 2 _ _ hR5
                 clear hp5 hf5 hT5 hI5 hT5b hf45 hR5
                 go_wp2
                 refine bodyPost_ret (results_row_one rfl _ _ w.heap.size 39 #[.int .i64 n.k,.int .i64 n.s,.slice a n.kids.length cp] (0,0) _ rfl ?_ Tryz.underlying39 rfl (by kernel_rfl)) rfl ?_
                 · exact set3_row HR5.out _ _ _
                 exact HFN.out
               · have HE:Hid (q=signF f (j+1) ⟨4,0,[n]⟩ r st4):=by
                  show _=_
                  rw [HXQ.out,signF_on hkn h3,hkt];rfl
                 have h3':decide ((j:Int) ≥ 3)=false:=by simp;omega
                 have hj2:j<=2:=by omega
                 obtain ⟨kk,hkk,c1,f1,hp5⟩:=HP4.out.adv hk4
                 have hf5:Fr (w3.alloc (.cells #[.int .i64 t.k,.int .i64 (t.p:Int),.string (strOfNums t.t),.slice va t.s.length vc] 54)).heap.size P (w3.alloc (.cells #[.int .i64 t.k,.int .i64 (t.p:Int),.string (strOfNums t.t),.slice va t.s.length vc] 54)) ((w3.alloc (.cells #[.int .i64 t.k,.int .i64 (t.p:Int),.string (strOfNums t.t),.slice va t.s.length vc] 54)).setCell ⟨P,1,none⟩ (.int .i64 ((kk:Int)+1))):=fr_own (w3.alloc (.cells #[.int .i64 t.k,.int .i64 (t.p:Int),.string (strOfNums t.t),.slice va t.s.length vc] 54)) 1 (by decide) _
                 obtain ⟨hT5,hI5⟩:=hf5.keep (w.heap.size+1) HT4.out.2.1 HT4.out.2
                 have hz5:=HZ4.out.fr hf5
                 have hF5:=HF4.out.then hf5 HF4.out.size
                 have hT5b:=hT5.trans HT4.out.1
                 have hcm:(w3.alloc (.cells #[.int .i64 t.k,.int .i64 (t.p:Int),.string (strOfNums t.t),.slice va t.s.length vc] 54)).setCell ⟨P,1,none⟩ (.int .i64 ((kk:Int)+1))=((w3.setCell ⟨P,1,none⟩ (.int .i64 ((kk:Int)+1))).alloc (.cells #[.int .i64 t.k,.int .i64 (t.p:Int),.string (strOfNums t.t),.slice va t.s.length vc] 54)):=World.setCell_alloc_past _ P 1 _ hPl3
                 rw [hcm] at hp5 hz5 hF5 hT5b hI5
                 have HT5:Hid (((w3.setCell ⟨P,1,none⟩ (.int .i64 ((kk:Int)+1))).alloc (.cells #[.int .i64 t.k,.int .i64 (t.p:Int),.string (strOfNums t.t),.slice va t.s.length vc] 54)).heap[w.heap.size+1]? = some (.cells #[.int .i64 n.k,.int .i64 n.s,.slice a n.kids.length cp] 39 (0,0))/\Im NoX ((w3.setCell ⟨P,1,none⟩ (.int .i64 ((kk:Int)+1))).alloc (.cells #[.int .i64 t.k,.int .i64 (t.p:Int),.string (strOfNums t.t),.slice va t.s.length vc] 54)) P (w.heap.size+1)):=⟨hT5b,hI5⟩
                 have HP5:Hid (Pa c (fun k=>(X k\/k=w.heap.size)\/k=w.heap.size+1) P ((w3.setCell ⟨P,1,none⟩ (.int .i64 ((kk:Int)+1))).alloc (.cells #[.int .i64 t.k,.int .i64 (t.p:Int),.string (strOfNums t.t),.slice va t.s.length vc] 54)) r st4 0):=hp5
                 have HZ5:Hid (KdX (fun k=>w.heap.size+2<=k/\Im (fun k=>(X k\/k=w.heap.size)\/k=w.heap.size+1) ((w3.setCell ⟨P,1,none⟩ (.int .i64 ((kk:Int)+1))).alloc (.cells #[.int .i64 t.k,.int .i64 (t.p:Int),.string (strOfNums t.t),.slice va t.s.length vc] 54)) P k) ((w3.setCell ⟨P,1,none⟩ (.int .i64 ((kk:Int)+1))).alloc (.cells #[.int .i64 t.k,.int .i64 (t.p:Int),.string (strOfNums t.t),.slice va t.s.length vc] 54)) (.slice a n.kids.length cp) n.kids):=hz5
                 have HF5:Hid (Fr (ndW w).heap.size P (ndW w) ((w3.setCell ⟨P,1,none⟩ (.int .i64 ((kk:Int)+1))).alloc (.cells #[.int .i64 t.k,.int .i64 (t.p:Int),.string (strOfNums t.t),.slice va t.s.length vc] 54))):=hF5
                 have hPN:P≠w.heap.size+1:=Ne.symm HT4.out.2.2.1
                 have HCN2:Hid (Chain (j+1) ⟨4,0,[n]⟩):=⟨rfl,n,rfl,HCN.out⟩
                 have HSZ5:Hid (((w3.setCell ⟨P,1,none⟩ (.int .i64 ((kk:Int)+1))).alloc (.cells #[.int .i64 t.k,.int .i64 (t.p:Int),.string (strOfNums t.t),.slice va t.s.length vc] 54)).heap.size=w3.heap.size+1):=by show _=_;simp [World.setCell]
                 have c13:w3.cell? ⟨P,1,none⟩=some (.int .i64 (kk:Int)):=((below_alloc w3 _).cell (p:=⟨P,1,none⟩) hPl3).symm.trans c1
                 have f13:w3.frozen? ⟨P,1,none⟩=false:=(World.frozen?_of_block (a:=⟨P,1,none⟩) ((below_alloc w3 _).block P hPl3)).symm.trans f1
                 clear hz5 hF5 hT5b hcm c1 f1
                 clear h2 q42 q43 s63 hkt hkn hk4 h3 hp5 hf5 hT5 hI5
                 go_wp2
                 go_roundw
                 case rel =>
                  have hW:((set3 (w3.setCell ⟨P,1,none⟩ (.int .i64 ((kk:Int)+1))) (w.heap.size+1) (.int .i64 4) (.int .i64 0) (.slice (some ⟨w3.heap.size+1,0,none⟩) 1 1)).alloc (.cells #[.int .i64 t.k,.int .i64 (t.p:Int),.string (strOfNums t.t),.slice va t.s.length vc] 54)).alloc (.cells #[.int .i64 n.k,.int .i64 n.s,.slice a n.kids.length cp] 39)=set3 (((w3.setCell ⟨P,1,none⟩ (.int .i64 ((kk:Int)+1))).alloc (.cells #[.int .i64 t.k,.int .i64 (t.p:Int),.string (strOfNums t.t),.slice va t.s.length vc] 54)).alloc (.cells #[.int .i64 n.k,.int .i64 n.s,.slice a n.kids.length cp] 39)) (w.heap.size+1) (.int .i64 4) (.int .i64 0) (.slice (some ⟨w3.heap.size+1,0,none⟩) 1 1):=by
                   rw [set3_alloc (w3.setCell ⟨P,1,none⟩ (.int .i64 ((kk:Int)+1))) (w.heap.size+1) _ _ _ _ (by simpa [World.setCell] using hNl3),set3_alloc _ (w.heap.size+1) _ _ _ _ (by simp [World.setCell];omega)]
                  rw [hW]
                  clear hW
                  obtain ⟨w5,hw5⟩ :∃w5,w5=((w3.setCell ⟨P,1,none⟩ (.int .i64 ((kk:Int)+1))).alloc (.cells #[.int .i64 t.k,.int .i64 (t.p:Int),.string (strOfNums t.t),.slice va t.s.length vc] 54)):=⟨_,rfl⟩
                  have hT5:=HT5.out
                  have hp5:=HP5.out
                  have hz5:=HZ5.out
                  have hf5:=HF5.out
                  have hs5:=HSZ5.out
                  rw [<- hw5] at hT5 hp5 hz5 hf5 hs5 ⊢
                  have hlT5:w.heap.size+1<w5.heap.size:=by omega
                  have hB6:=below_alloc w5 (.cells #[.int .i64 n.k,.int .i64 n.s,.slice a n.kids.length cp] 39)
                  have hf6:=hp5.fr hB6
                  have hp6:=hp5.below hB6
                  obtain ⟨hT6,hI6⟩:=hf6.keep (w.heap.size+1) hlT5 hT5.2
                  have hS6:=heap_new' w5 (.cells #[.int .i64 n.k,.int .i64 n.s,.slice a n.kids.length cp] 39)
                  have hIS:=hp5.fresh hB6 w5.heap.size (Nat.le_refl _) (by simp)
                  have hSne:w5.heap.size≠w.heap.size+1:=by omega
                  have hf56:=hf5.then hf6 hf5.size
                  refine ⟨j+1,f,⟨4,0,[n]⟩,some ⟨w3.heap.size+1,0,none⟩,1,r,0,by go_num,by omega,by have:=HJF.out;omega,HCN2,.inr ⟨rfl,HE.out⟩,?_,?_,?_,?_,?_⟩
                  · exact set3_row (hT6.trans hT5.1) _ _ _
                  · exact set3_im hPN _ _ _ hI6
                  · rw [<- hs5]
                    refine KdX.one (z := .slice a n.kids.length cp) ((set3_block _ _ _ _ _ _ hSne).trans hS6) ⟨by omega,set3_im hPN _ _ _ hIS⟩ ?_
                    exact (hz5.fr hf6).to (fun k hk=>⟨set3_block _ _ _ _ _ k (fun q=>hk.2.2.2.2 (.inr q)),hk.1,set3_im hPN _ _ _ hk.2⟩)
                  · exact hp6.set3 (.inr rfl) hI6 _ _ _
                  · exact hf56.trans (set3_fr _ HLE.out hPN _ _ _)
                 case measure=>simp [intOf];omega
             · rw [decide_eq_false q43] at s43
               by_cases q63:t.t=[63]
               · rw [decide_eq_true q63] at s63
                 have hkt:kindT (hdT (t::r))=5:=by simp [kindT,tkSign,hdT,h2,q63]
                 have hkn:¬kindT (hdT (t::r))=0:=by rw [hkt];decide
                 have hk4:t.k≠4:=by rw [h2];decide
                 by_cases h3:j=3
                 · have HE:Hid (q = .inl (t::r,3)):=by
                    show _=_
                    rw [HXQ.out];unfold signF;rw [if_neg hkn,if_pos h3]
                   have h3':decide ((j:Int) ≥ 3)=true:=by simp;omega
                   have hfl:=fail_any c _ P (w3.alloc (.cells #[.int .i64 t.k,.int .i64 (t.p:Int),.string (strOfNums t.t),.slice va t.s.length vc] 54)) st4 0 HP4.out 3 (by decide)
                   simp only [if_true] at hfl
                   clear h2 q42 q43 q63 hkt hkn hk4 h3
                   clear t0 tf0 t1 tf1 t2 tf2 d0 df0 d1 df1 d2 df2
                   go_wp2_with fail
                   refine hfl.mono ?_
                   rintro e w5 ⟨rfl,hp5,hf5⟩
                   clear hfl
                   obtain ⟨hT5,hI5⟩:=hf5.keep (w.heap.size+1) HT4.out.2.1 HT4.out.2
                   have hT5b:=hT5.trans HT4.out.1
                   have hf45:=HF4.out.then hf5 HF4.out.size
                   obtain ⟨hR5,hRl5⟩:=ROW.out w5 hf45
                   have HR5:Hid (w5.heap[w.heap.size]? = some (.cells #[.int .i64 0,.int .i64 0,.slice none 0 0] 39 (0,0))):=hR5
                   have hNl5:w.heap.size+1<w5.heap.size:=hI5.1
                   have HFN:Hid _:=FIN.out w5 n (.slice a n.kids.length cp) 3 (t::r) st4 HSG.out hp5 hf45 (HZ4.out.fr hf5) (.inl ⟨by decide,HE.out⟩)
                   have t0:w5.cell? ⟨(w.heap.size+1),0,none⟩=some (.int .i64 n.k):=cell_of_row _ _ 0 _ _ _ hT5b
                   have tf0:w5.frozen? ⟨(w.heap.size+1),0,none⟩=false:=frozen_of_row _ _ 0 _ _ hT5b
                   have t1:w5.cell? ⟨(w.heap.size+1),1,none⟩=some (.int .i64 n.s):=cell_of_row _ _ 1 _ _ _ hT5b
                   have tf1:w5.frozen? ⟨(w.heap.size+1),1,none⟩=false:=frozen_of_row _ _ 1 _ _ hT5b
                   have t2:w5.cell? ⟨(w.heap.size+1),2,none⟩=some (.slice a n.kids.length cp):=cell_of_row _ _ 2 _ _ _ hT5b
                   have tf2:w5.frozen? ⟨(w.heap.size+1),2,none⟩=false:=frozen_of_row _ _ 2 _ _ hT5b
                   have d0:w5.cell? ⟨w.heap.size,0,none⟩=some (.int .i64 0):=cell_of_row _ _ 0 _ _ _ hR5
                   have df0:w5.frozen? ⟨w.heap.size,0,none⟩=false:=frozen_of_row _ _ 0 _ _ hR5
                   have d1:w5.cell? ⟨w.heap.size,1,none⟩=some (.int .i64 0):=cell_of_row _ _ 1 _ _ _ hR5
                   have df1:w5.frozen? ⟨w.heap.size,1,none⟩=false:=frozen_of_row _ _ 1 _ _ hR5
                   have d2:w5.cell? ⟨w.heap.size,2,none⟩=some (.slice none 0 0):=cell_of_row _ _ 2 _ _ _ hR5
                   have df2:w5.frozen? ⟨w.heap.size,2,none⟩=false:=frozen_of_row _ _ 2 _ _ hR5
                   clear hp5 hf5 hT5 hI5 hT5b hf45 hR5
                   go_wp2
                   refine bodyPost_ret (results_row_one rfl _ _ w.heap.size 39 #[.int .i64 n.k,.int .i64 n.s,.slice a n.kids.length cp] (0,0) _ rfl ?_ Tryz.underlying39 rfl (by kernel_rfl)) rfl ?_
                   · exact set3_row HR5.out _ _ _
                   exact HFN.out
                 · have HE:Hid (q=signF f (j+1) ⟨5,0,[n]⟩ r st4):=by
                    show _=_
                    rw [HXQ.out,signF_on hkn h3,hkt];rfl
                   have h3':decide ((j:Int) ≥ 3)=false:=by simp;omega
                   have hj2:j<=2:=by omega
                   obtain ⟨kk,hkk,c1,f1,hp5⟩:=HP4.out.adv hk4
                   have hf5:Fr (w3.alloc (.cells #[.int .i64 t.k,.int .i64 (t.p:Int),.string (strOfNums t.t),.slice va t.s.length vc] 54)).heap.size P (w3.alloc (.cells #[.int .i64 t.k,.int .i64 (t.p:Int),.string (strOfNums t.t),.slice va t.s.length vc] 54)) ((w3.alloc (.cells #[.int .i64 t.k,.int .i64 (t.p:Int),.string (strOfNums t.t),.slice va t.s.length vc] 54)).setCell ⟨P,1,none⟩ (.int .i64 ((kk:Int)+1))):=fr_own (w3.alloc (.cells #[.int .i64 t.k,.int .i64 (t.p:Int),.string (strOfNums t.t),.slice va t.s.length vc] 54)) 1 (by decide) _
                   obtain ⟨hT5,hI5⟩:=hf5.keep (w.heap.size+1) HT4.out.2.1 HT4.out.2
                   have hz5:=HZ4.out.fr hf5
                   have hF5:=HF4.out.then hf5 HF4.out.size
                   have hT5b:=hT5.trans HT4.out.1
                   have hcm:(w3.alloc (.cells #[.int .i64 t.k,.int .i64 (t.p:Int),.string (strOfNums t.t),.slice va t.s.length vc] 54)).setCell ⟨P,1,none⟩ (.int .i64 ((kk:Int)+1))=((w3.setCell ⟨P,1,none⟩ (.int .i64 ((kk:Int)+1))).alloc (.cells #[.int .i64 t.k,.int .i64 (t.p:Int),.string (strOfNums t.t),.slice va t.s.length vc] 54)):=World.setCell_alloc_past _ P 1 _ hPl3
                   rw [hcm] at hp5 hz5 hF5 hT5b hI5
                   have HT5:Hid (((w3.setCell ⟨P,1,none⟩ (.int .i64 ((kk:Int)+1))).alloc (.cells #[.int .i64 t.k,.int .i64 (t.p:Int),.string (strOfNums t.t),.slice va t.s.length vc] 54)).heap[w.heap.size+1]? = some (.cells #[.int .i64 n.k,.int .i64 n.s,.slice a n.kids.length cp] 39 (0,0))/\Im NoX ((w3.setCell ⟨P,1,none⟩ (.int .i64 ((kk:Int)+1))).alloc (.cells #[.int .i64 t.k,.int .i64 (t.p:Int),.string (strOfNums t.t),.slice va t.s.length vc] 54)) P (w.heap.size+1)):=⟨hT5b,hI5⟩
                   have HP5:Hid (Pa c (fun k=>(X k\/k=w.heap.size)\/k=w.heap.size+1) P ((w3.setCell ⟨P,1,none⟩ (.int .i64 ((kk:Int)+1))).alloc (.cells #[.int .i64 t.k,.int .i64 (t.p:Int),.string (strOfNums t.t),.slice va t.s.length vc] 54)) r st4 0):=hp5
                   have HZ5:Hid (KdX (fun k=>w.heap.size+2<=k/\Im (fun k=>(X k\/k=w.heap.size)\/k=w.heap.size+1) ((w3.setCell ⟨P,1,none⟩ (.int .i64 ((kk:Int)+1))).alloc (.cells #[.int .i64 t.k,.int .i64 (t.p:Int),.string (strOfNums t.t),.slice va t.s.length vc] 54)) P k) ((w3.setCell ⟨P,1,none⟩ (.int .i64 ((kk:Int)+1))).alloc (.cells #[.int .i64 t.k,.int .i64 (t.p:Int),.string (strOfNums t.t),.slice va t.s.length vc] 54)) (.slice a n.kids.length cp) n.kids):=hz5
                   have HF5:Hid (Fr (ndW w).heap.size P (ndW w) ((w3.setCell ⟨P,1,none⟩ (.int .i64 ((kk:Int)+1))).alloc (.cells #[.int .i64 t.k,.int .i64 (t.p:Int),.string (strOfNums t.t),.slice va t.s.length vc] 54))):=hF5
                   have hPN:P≠w.heap.size+1:=Ne.symm HT4.out.2.2.1
                   have HCN2:Hid (Chain (j+1) ⟨5,0,[n]⟩):=⟨rfl,n,rfl,HCN.out⟩
                   have HSZ5:Hid (((w3.setCell ⟨P,1,none⟩ (.int .i64 ((kk:Int)+1))).alloc (.cells #[.int .i64 t.k,.int .i64 (t.p:Int),.string (strOfNums t.t),.slice va t.s.length vc] 54)).heap.size=w3.heap.size+1):=by show _=_;simp [World.setCell]
                   have c13:w3.cell? ⟨P,1,none⟩=some (.int .i64 (kk:Int)):=((below_alloc w3 _).cell (p:=⟨P,1,none⟩) hPl3).symm.trans c1
                   have f13:w3.frozen? ⟨P,1,none⟩=false:=(World.frozen?_of_block (a:=⟨P,1,none⟩) ((below_alloc w3 _).block P hPl3)).symm.trans f1
                   clear hz5 hF5 hT5b hcm c1 f1
                   clear h2 q42 q43 q63 hkt hkn hk4 h3 hp5 hf5 hT5 hI5
                   go_wp2
                   go_roundw
                   case rel =>
                    have hW:((set3 (w3.setCell ⟨P,1,none⟩ (.int .i64 ((kk:Int)+1))) (w.heap.size+1) (.int .i64 5) (.int .i64 0) (.slice (some ⟨w3.heap.size+1,0,none⟩) 1 1)).alloc (.cells #[.int .i64 t.k,.int .i64 (t.p:Int),.string (strOfNums t.t),.slice va t.s.length vc] 54)).alloc (.cells #[.int .i64 n.k,.int .i64 n.s,.slice a n.kids.length cp] 39)=set3 (((w3.setCell ⟨P,1,none⟩ (.int .i64 ((kk:Int)+1))).alloc (.cells #[.int .i64 t.k,.int .i64 (t.p:Int),.string (strOfNums t.t),.slice va t.s.length vc] 54)).alloc (.cells #[.int .i64 n.k,.int .i64 n.s,.slice a n.kids.length cp] 39)) (w.heap.size+1) (.int .i64 5) (.int .i64 0) (.slice (some ⟨w3.heap.size+1,0,none⟩) 1 1):=by
                     rw [set3_alloc (w3.setCell ⟨P,1,none⟩ (.int .i64 ((kk:Int)+1))) (w.heap.size+1) _ _ _ _ (by simpa [World.setCell] using hNl3),set3_alloc _ (w.heap.size+1) _ _ _ _ (by simp [World.setCell];omega)]
                    rw [hW]
                    clear hW
                    obtain ⟨w5,hw5⟩ :∃w5,w5=((w3.setCell ⟨P,1,none⟩ (.int .i64 ((kk:Int)+1))).alloc (.cells #[.int .i64 t.k,.int .i64 (t.p:Int),.string (strOfNums t.t),.slice va t.s.length vc] 54)):=⟨_,rfl⟩
                    have hT5:=HT5.out
                    have hp5:=HP5.out
                    have hz5:=HZ5.out
                    have hf5:=HF5.out
                    have hs5:=HSZ5.out
                    rw [<- hw5] at hT5 hp5 hz5 hf5 hs5 ⊢
                    have hlT5:w.heap.size+1<w5.heap.size:=by omega
                    have hB6:=below_alloc w5 (.cells #[.int .i64 n.k,.int .i64 n.s,.slice a n.kids.length cp] 39)
                    have hf6:=hp5.fr hB6
                    have hp6:=hp5.below hB6
                    obtain ⟨hT6,hI6⟩:=hf6.keep (w.heap.size+1) hlT5 hT5.2
                    have hS6:=heap_new' w5 (.cells #[.int .i64 n.k,.int .i64 n.s,.slice a n.kids.length cp] 39)
                    have hIS:=hp5.fresh hB6 w5.heap.size (Nat.le_refl _) (by simp)
                    have hSne:w5.heap.size≠w.heap.size+1:=by omega
                    have hf56:=hf5.then hf6 hf5.size
                    refine ⟨j+1,f,⟨5,0,[n]⟩,some ⟨w3.heap.size+1,0,none⟩,1,r,0,by go_num,by omega,by have:=HJF.out;omega,HCN2,.inr ⟨rfl,HE.out⟩,?_,?_,?_,?_,?_⟩
                    · exact set3_row (hT6.trans hT5.1) _ _ _
                    · exact set3_im hPN _ _ _ hI6
                    · rw [<- hs5]
                      refine KdX.one (z := .slice a n.kids.length cp) ((set3_block _ _ _ _ _ _ hSne).trans hS6) ⟨by omega,set3_im hPN _ _ _ hIS⟩ ?_
                      exact (hz5.fr hf6).to (fun k hk=>⟨set3_block _ _ _ _ _ k (fun q=>hk.2.2.2.2 (.inr q)),hk.1,set3_im hPN _ _ _ hk.2⟩)
                    · exact hp6.set3 (.inr rfl) hI6 _ _ _
                    · exact hf56.trans (set3_fr _ HLE.out hPN _ _ _)
                   case measure=>simp [intOf];omega
               · rw [decide_eq_false q63] at s63
                 have HKK:Hid (q = .inr (n,t::r,st4)):=by
                  show _=_
                  rw [HXQ.out];unfold signF;rw [if_pos (show kindT (hdT (t::r))=0 by simp [kindT,tkSign,hdT,q42,q43,q63])]
                 have HFN:Hid _:=FIN.out (w3.alloc (.cells #[.int .i64 t.k,.int .i64 (t.p:Int),.string (strOfNums t.t),.slice va t.s.length vc] 54)) n (.slice a n.kids.length cp) 0 (t::r) st4 HSG.out HP4.out HF4.out HZ4.out (.inr ⟨rfl,HKK.out⟩)
                 clear h2 q42 q43 q63
                 go_wp2
                 refine bodyPost_ret (results_row_one rfl _ _ w.heap.size 39 #[.int .i64 n.k,.int .i64 n.s,.slice a n.kids.length cp] (0,0) _ rfl ?_ Tryz.underlying39 rfl (by kernel_rfl)) rfl ?_
                 · rw [set3_alloc w3 w.heap.size _ _ _ _ hRl3];exact set3_row HR4.out _ _ _
                 rw [set3_alloc w3 w.heap.size _ _ _ _ hRl3]
                 exact HFN.out
         · have h2':(t.k != 2)=true:=by simpa using h2
           have HKK:Hid (q = .inr (n,t::r,st4)):=by
            show _=_
            rw [HXQ.out];unfold signF;rw [if_pos (show kindT (hdT (t::r))=0 by simp [kindT,tkSign,hdT,h2])]
           have HFN:Hid _:=FIN.out (w3.alloc (.cells #[.int .i64 t.k,.int .i64 (t.p:Int),.string (strOfNums t.t),.slice va t.s.length vc] 54)) n (.slice a n.kids.length cp) 0 (t::r) st4 HSG.out HP4.out HF4.out HZ4.out (.inr ⟨rfl,HKK.out⟩)
           clear h2 s42 s43 s63
           go_wp2
           refine bodyPost_ret (results_row_one rfl _ _ w.heap.size 39 #[.int .i64 n.k,.int .i64 n.s,.slice a n.kids.length cp] (0,0) _ rfl ?_ Tryz.underlying39 rfl (by kernel_rfl)) rfl ?_
           · rw [set3_alloc w3 w.heap.size _ _ _ _ hRl3];exact set3_row HR4.out _ _ _
           rw [set3_alloc w3 w.heap.size _ _ _ _ hRl3]
           exact HFN.out
  · have HXE:Hid ((if x=0 then 6 else x)≠0/\q = .inl (t::r,(((if x=0 then 6 else x):Nat):Int))):=by
     rcases hx with ⟨h,_⟩ | ⟨_,rfl,h⟩ | ⟨_,rfl,h⟩
     · exact absurd rfl h
     · exact ⟨by decide,by rw [HE1.out,h];rfl⟩
     · exact ⟨by decide,by rw [HE1.out,h];rfl⟩
    have hfl:=fail_any c _ P w3 st x hp3 6 (by decide)
    obtain ⟨y,hy⟩ :∃y,y=(if x=0 then 6 else x):=⟨_,rfl⟩
    rw [<- hy] at hfl HXE
    have HF3:Hid (Fr (ndW (ndW w)).heap.size P (ndW (ndW w)) w3):=HF1.out.then hf3 HF1.out.size
    clear hf3 hp3 h3 hx hy
    go_wp2_with fail
    refine hfl.mono ?_
    rintro e w4 ⟨rfl,hp4,hf4⟩
    clear hfl
    have hF4:=HF3.out.then hf4 HF3.out.size
    obtain ⟨hRz,hRlz⟩:=ROW.out w4 (TOF.out w4 hF4)
    obtain ⟨hTz,hIz⟩:=NROW.out w4 hF4
    have HRz:Hid (w4.heap[w.heap.size]? = some (.cells #[.int .i64 0,.int .i64 0,.slice none 0 0] 39 (0,0))):=hRz
    have hNlz:w.heap.size+1<w4.heap.size:=hIz.1
    have HFN:Hid _:=FIN.out w4 ⟨0,0,[]⟩ (.slice none 0 0) y (t::r) st ⟨0,by omega,rfl⟩ hp4 (TOF.out w4 hF4) (KdX.nil _ _) (.inl HXE.out)
    have t0:w4.cell? ⟨(w.heap.size+1),0,none⟩=some (.int .i64 0):=cell_of_row _ _ 0 _ _ _ hTz
    have tf0:w4.frozen? ⟨(w.heap.size+1),0,none⟩=false:=frozen_of_row _ _ 0 _ _ hTz
    have t1:w4.cell? ⟨(w.heap.size+1),1,none⟩=some (.int .i64 0):=cell_of_row _ _ 1 _ _ _ hTz
    have tf1:w4.frozen? ⟨(w.heap.size+1),1,none⟩=false:=frozen_of_row _ _ 1 _ _ hTz
    have t2:w4.cell? ⟨(w.heap.size+1),2,none⟩=some (.slice none 0 0):=cell_of_row _ _ 2 _ _ _ hTz
    have tf2:w4.frozen? ⟨(w.heap.size+1),2,none⟩=false:=frozen_of_row _ _ 2 _ _ hTz
    have d0:w4.cell? ⟨w.heap.size,0,none⟩=some (.int .i64 0):=cell_of_row _ _ 0 _ _ _ hRz
    have df0:w4.frozen? ⟨w.heap.size,0,none⟩=false:=frozen_of_row _ _ 0 _ _ hRz
    have d1:w4.cell? ⟨w.heap.size,1,none⟩=some (.int .i64 0):=cell_of_row _ _ 1 _ _ _ hRz
    have df1:w4.frozen? ⟨w.heap.size,1,none⟩=false:=frozen_of_row _ _ 1 _ _ hRz
    have d2:w4.cell? ⟨w.heap.size,2,none⟩=some (.slice none 0 0):=cell_of_row _ _ 2 _ _ _ hRz
    have df2:w4.frozen? ⟨w.heap.size,2,none⟩=false:=frozen_of_row _ _ 2 _ _ hRz
    clear hRz hTz hIz
    clear hp4 hf4 hF4
    go_wp2
    refine bodyPost_ret (results_row_one rfl _ _ w.heap.size 39 #[.int .i64 0,.int .i64 0,.slice none 0 0] (0,0) _ rfl ?_ Tryz.underlying39 rfl (by kernel_rfl)) rfl ?_
    · exact set3_row HRz.out _ _ _
    exact HFN.out
end Go.Proofs.YtfdjchnckjgapaaGreatDoor
