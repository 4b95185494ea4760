/-
  RegP2 PartP SgnP
-/
import Derived.Test.YtfdjchnckjgapaaGreatDoorZ16
namespace Go.Proofs.YtfdjchnckjgapaaGreatDoor
set_option maxHeartbeats 8000000
set_option maxRecDepth 100000
open Go.RowKit Go.Shelf S1
set_option linter.unusedVariables false
theorem bracketN_of (c:Pc) (X:Nat->Prop) (P:Nat) (w:World) (ts:List Tok) (st:Sts) (d:Nat) (q:NR Nd) (hpa:Pa c X P w ts st d)
 (hdeep:∀(Y:Nat->Prop) (B1 B2:Nat) w1,Pa c Y P w1 ts st d->Im NoX w1 P B1->Im NoX w1 P B2->w1.cell? ⟨B1,0,none⟩=some (.pointer (some ⟨P,0,none⟩))->w1.cell? ⟨B2,0,none⟩=some (.func (.func 119) #[.pointer (some ⟨P,0,none⟩)] #[]) ->
  Calls Tryz.prog 231 #[.pointer (some ⟨P,0,none⟩),.func (.func 232) #[] #[.pointer (some ⟨B1,0,none⟩),.pointer (some ⟨B2,0,none⟩)]] w1 λe w'=>NA c Y P d q w1 e w') :
 Calls Tryz.prog 224 #[.pointer (some ⟨P,0,none⟩),.func (.func 119) #[.pointer (some ⟨P,0,none⟩)] #[]] w λe w'=>NA c X P d q w e w':=by
 have hPl:=hpa.lt;have hB2:Below w.heap.size w ((w.alloc (.cells #[.pointer (some ⟨P,0,none⟩)] 79)).alloc (.cells #[.func (.func 119) #[.pointer (some ⟨P,0,none⟩)] #[]] 155)):=below_after (below_alloc _ _) (below_alloc _ _);have hp2:=hpa.below hB2;have hsz2:((w.alloc (.cells #[.pointer (some ⟨P,0,none⟩)] 79)).alloc (.cells #[.func (.func 119) #[.pointer (some ⟨P,0,none⟩)] #[]] 155)).heap.size=w.heap.size+2:=by simp
 have hp3:=hp2.alloc (.cells #[.int .i64 0,.int .i64 0,.slice none 0 0] 39);have hIR:=hp2.im_new (.cells #[.int .i64 0,.int .i64 0,.slice none 0 0] 39);have hE0:=heap_new' ((w.alloc (.cells #[.pointer (some ⟨P,0,none⟩)] 79)).alloc (.cells #[.func (.func 119) #[.pointer (some ⟨P,0,none⟩)] #[]] 155)) (.cells #[.int .i64 0,.int .i64 0,.slice none 0 0] 39);rw [hsz2] at hp3 hIR hE0;have hB3:Below w.heap.size w (ndW ((w.alloc (.cells #[.pointer (some ⟨P,0,none⟩)] 79)).alloc (.cells #[.func (.func 119) #[.pointer (some ⟨P,0,none⟩)] #[]] 155))):=below_after hB2 (below_alloc _ _);have hsz3:(ndW ((w.alloc (.cells #[.pointer (some ⟨P,0,none⟩)] 79)).alloc (.cells #[.func (.func 119) #[.pointer (some ⟨P,0,none⟩)] #[]] 155))).heap.size=w.heap.size+3:=by simp
 have hno:=hpa.less (X':=NoX) (λ_ q=>q.elim);have k1:(ndW ((w.alloc (.cells #[.pointer (some ⟨P,0,none⟩)] 79)).alloc (.cells #[.func (.func 119) #[.pointer (some ⟨P,0,none⟩)] #[]] 155))).heap[w.heap.size]? = some (.cells #[.pointer (some ⟨P,0,none⟩)] 79 (0,0)):=((below_alloc _ _).block _ (by rw [hsz2];omega)).trans (((below_alloc _ _).block _ (by simp)).trans (heap_new' w _));have k2:(ndW ((w.alloc (.cells #[.pointer (some ⟨P,0,none⟩)] 79)).alloc (.cells #[.func (.func 119) #[.pointer (some ⟨P,0,none⟩)] #[]] 155))).heap[w.heap.size+1]? = some (.cells #[.func (.func 119) #[.pointer (some ⟨P,0,none⟩)] #[]] 155 (0,0)):=((below_alloc _ _).block _ (by rw [hsz2];omega)).trans (by have:=heap_new' (w.alloc (.cells #[.pointer (some ⟨P,0,none⟩)] 79)) (.cells #[.func (.func 119) #[.pointer (some ⟨P,0,none⟩)] #[]] 155);rw [World.size_alloc] at this;exact this);have h1:=hdeep _ w.heap.size (w.heap.size+1) _ hp3 (hno.fresh hB3 _ (by omega) (by omega)) (hno.fresh hB3 _ (by omega) (by omega)) (cell_of_row _ _ 0 _ _ _ k1) (cell_of_row _ _ 0 _ _ _ k2);have HIR:Hid (Im NoX (ndW ((w.alloc (.cells #[.pointer (some ⟨P,0,none⟩)] 79)).alloc (.cells #[.func (.func 119) #[.pointer (some ⟨P,0,none⟩)] #[]] 155))) P (w.heap.size+2)):=hIR;have HE0:Hid ((ndW ((w.alloc (.cells #[.pointer (some ⟨P,0,none⟩)] 79)).alloc (.cells #[.func (.func 119) #[.pointer (some ⟨P,0,none⟩)] #[]] 155))).heap[w.heap.size+2]? = some (.cells #[.int .i64 0,.int .i64 0,.slice none 0 0] 39 (0,0))):=hE0;have HF0:Hid (Fr w.heap.size P w (ndW ((w.alloc (.cells #[.pointer (some ⟨P,0,none⟩)] 79)).alloc (.cells #[.func (.func 119) #[.pointer (some ⟨P,0,none⟩)] #[]] 155)))):=hpa.fr hB3;have HSZ:Hid ((ndW ((w.alloc (.cells #[.pointer (some ⟨P,0,none⟩)] 79)).alloc (.cells #[.func (.func 119) #[.pointer (some ⟨P,0,none⟩)] #[]] 155))).heap.size=w.heap.size+3):=hsz3;clear hdeep hpa hB2 hp2 hsz2 hp3 hIR hE0 hB3 hsz3 hno k1 k2;go_enter Tryz.func224,Tryz.ntmps224
 go_wp2_with fail
 refine h1.mono ?_;rintro e w2 ⟨n,z,y,r2,st2,rfl,hz,hp,hf,hq⟩;obtain ⟨za,zc,rfl,_⟩:=hz.slice;unfold ndV;obtain ⟨hR3,hI3⟩:=hf.keep (w.heap.size+2) (by rw [HSZ.out];omega) HIR.out;have hR3':=hR3.trans HE0.out;have HFIN:Hid (Pa c X P (set3 w2 (w.heap.size+2) (.int .i64 n.k) (.int .i64 n.s) (.slice za n.kids.length zc)) r2 st2 d/\Fr w.heap.size P w (set3 w2 (w.heap.size+2) (.int .i64 n.k) (.int .i64 n.s) (.slice za n.kids.length zc))/\KdX (λk=>w.heap.size<=k/\Im X (set3 w2 (w.heap.size+2) (.int .i64 n.k) (.int .i64 n.s) (.slice za n.kids.length zc)) P k) (set3 w2 (w.heap.size+2) (.int .i64 n.k) (.int .i64 n.s) (.slice za n.kids.length zc)) (.slice za n.kids.length zc) n.kids) :=
  fin3 hp hI3 (HF0.out.then hf (by rw [HSZ.out];omega)) (by omega) hz (by rw [HSZ.out];omega) _ _ _
 have HR3:Hid (w2.heap[w.heap.size+2]? = some (.cells #[.int .i64 0,.int .i64 0,.slice none 0 0] 39 (0,0))):=hR3';have d0:w2.cell? ⟨w.heap.size+2,0,none⟩=some (.int .i64 0):=cell_of_row _ _ 0 _ _ _ hR3';have df0:w2.frozen? ⟨w.heap.size+2,0,none⟩=false:=frozen_of_row _ _ 0 _ _ hR3';have d1:w2.cell? ⟨w.heap.size+2,1,none⟩=some (.int .i64 0):=cell_of_row _ _ 1 _ _ _ hR3';have df1:w2.frozen? ⟨w.heap.size+2,1,none⟩=false:=frozen_of_row _ _ 1 _ _ hR3';have d2:w2.cell? ⟨w.heap.size+2,2,none⟩=some (.slice none 0 0):=cell_of_row _ _ 2 _ _ _ hR3';have df2:w2.frozen? ⟨w.heap.size+2,2,none⟩=false:=frozen_of_row _ _ 2 _ _ hR3';have hlw:w.heap.size+2<w2.heap.size:=hI3.1;clear h1 hp hf hz hR3 hR3' hI3;go_wp2;refine bodyPost_ret (results_row_tmp rfl _ _ (w.heap.size+2) 39 #[.int .i64 n.k,.int .i64 n.s,.slice za n.kids.length zc] (0,0) _ rfl ?_ Tryz.underlying39 rfl (by kernel_rfl)) rfl ?_
 · exact set3_row HR3.out _ _ _
 exact ⟨n,_,y,r2,st2,rfl,HFIN.out.2.2,HFIN.out.1,HFIN.out.2.1,hq⟩
theorem bracketN_full (c:Pc) (X:Nat->Prop) (P:Nat) (w:World) (ts:List Tok) (st:Sts) (hpa:Pa c X P w ts st 20) :
 Calls Tryz.prog 224 #[.pointer (some ⟨P,0,none⟩),.func (.func 119) #[.pointer (some ⟨P,0,none⟩)] #[]] w λe w'=>NA c X P 20 (.inl (ts,3)) w e w' :=
 bracketN_of c X P w ts st 20 _ hpa (λY B1 B2 w1 hp _ _ _ _=>deeperN_full c Y P w1 ts st _ _ _ hp)
theorem bracketN_any (c:Pc) (X:Nat->Prop) (P:Nat) (w:World) (t:Tok) (r:List Tok) (st:Sts) (d:Nat) (q:NR Nd) (hd:d<20) (hk:t.k≠4) (hpa:Pa c X P w (t::r) st d) (hcall:NFn 119 c P r st (d+1) q) :
 Calls Tryz.prog 224 #[.pointer (some ⟨P,0,none⟩),.func (.func 119) #[.pointer (some ⟨P,0,none⟩)] #[]] w λe w'=>NA c X P d (endN 41 q) w e w' :=
 bracketN_of c X P w (t::r) st d _ hpa (λY B1 B2 w1 hp i1 i2 c1 c2=>deeperN_any c Y P w1 t r st d 232 #[] #[.pointer (some ⟨B1,0,none⟩),.pointer (some ⟨B2,0,none⟩)] (endN 41 q) (enters_of Tryz.func232 (by kernel_rfl) rfl) hd hk hp (λY2 w2 hp2 hf2 =>
  bracketN1_any c Y2 P B1 B2 w2 r st (d+1) q ((World.cell?_of_block (a:=⟨B1,0,none⟩) (hf2.keep B1 i1.1 i1).1).trans c1) ((World.cell?_of_block (a:=⟨B2,0,none⟩) (hf2.keep B2 i2.1 i2).1).trans c2) hp2 hcall))
set_option maxHeartbeats 8000000
set_option maxRecDepth 100000
def RegexC (b:Nat):Prop:=∀(c:Pc) (P:Nat) (ts:List Tok) (st:Sts) (d:Nat),d+b=20->NFn 119 c P ts st d (regexM c.N b ts st)
def PartC (b:Nat):Prop:=∀(c:Pc) (P:Nat) (ts:List Tok) (st:Sts) (d:Nat),d+b=20->NFn 210 c P ts st d (partM c.N (inner c.N b) ts st)
theorem partM_br {N:Nms} {b:Nat} {t:Tok} {r:List Tok} {st:Sts} (h:tkSign 40 t=true):partM N (inner N (b+1)) (t::r) st=endN 41 (regexM N b r st):=by
 unfold partM;simp only [hdT,h,if_true,inner,List.tail_cons]
theorem partM_br0 {N:Nms} {t:Tok} {r:List Tok} {st:Sts} (h:tkSign 40 t=true):partM N (inner N 0) (t::r) st = .inl (t::r,3):=by
 unfold partM;simp only [hdT,h,if_true,inner]
def plM (t:Tok) (r:List Tok):Option (Nat×Sts)->NR Nd
 | none => .inl (t::r,3)
 | some (i,st') => .inr (⟨1,i,[]⟩,r,st')
def seM (st:Sts) (t:Tok) (r:List Tok):Int ⊕ List Rg->NR Nd
 | .inl e => .inl (t::r,e)
 | .inr s=>plM t r (placeM st s)
theorem partM_set {N:Nms} {f:Option (List Tok->Sts->NR Nd)} {t:Tok} {r:List Tok} {st:Sts} (h:tkSign 40 t=false):partM N f (t::r) st=seM st t r (setM N t):=by
 unfold partM;simp only [hdT,h,Bool.false_eq_true,if_false,List.tail_cons];cases h1:setM N t with
 | inl e=>rfl
 | inr s =>
  simp only [seM];cases h2:placeM st s with
  | none=>rfl
  | some x=>rfl
theorem part_step (b:Nat) (hin:∀(c:Pc) (X:Nat->Prop) (P:Nat) (w:World) (t:Tok) (r:List Tok) (st:Sts) (d:Nat),d+b=20->Pa c X P w (t::r) st d->tkSign 40 t=true ->
 Calls Tryz.prog 224 #[.pointer (some ⟨P,0,none⟩),.func (.func 119) #[.pointer (some ⟨P,0,none⟩)] #[]] w λe w'=>NA c X P d (partM c.N (inner c.N b) (t::r) st) w e w'):PartC b:=λc P ts st d hdb X w hpa=>by
 obtain ⟨t,r,rfl⟩:=hpa.ends.cons;have hPl:=hpa.lt;have h1:Calls Tryz.prog 142 #[.pointer (some ⟨P,0,none⟩),.string ⟨#[40]⟩] (ndW w) λe w'=>AnsB (ndW w) (tkSign 40 t) e w':=isSign_ans c _ P _ t r st d (hpa.alloc _) 40 (by decide);obtain ⟨q,hq⟩ :∃q,q=partM c.N (inner c.N b) (t::r) st:=⟨_,rfl⟩;have HQ:Hid (q=partM c.N (inner c.N b) (t::r) st):=hq;have HIN:Hid (∀(X:Nat->Prop) (w:World),Pa c X P w (t::r) st d->tkSign 40 t=true ->
  Calls Tryz.prog 224 #[.pointer (some ⟨P,0,none⟩),.func (.func 119) #[.pointer (some ⟨P,0,none⟩)] #[]] w λe w'=>NA c X P d q w e w'):=by
  rw [hq];exact λX w hp h=>hin c X P w t r st d hdb hp h
 rw [<- hq];have HP0:Hid (Pa c (λk=>X k\/k=w.heap.size) P (ndW w) (t::r) st d):=hpa.alloc _;have HIR:Hid (Im NoX (ndW w) P w.heap.size):=hpa.im_new _;have HE0:Hid ((ndW w).heap[w.heap.size]? = some (.cells #[.int .i64 0,.int .i64 0,.slice none 0 0] 39 (0,0))):=heap_new' _ _;have HF0:Hid (Fr w.heap.size P w (ndW w)):=hpa.fr (below_alloc _ _);have HSZ:Hid ((ndW w).heap.size=w.heap.size+1):=by show _=_;simp
 have FIN:Hid (∀(w2:World) (n:Nd) (z:Value) (y:Int) (r2:List Tok) (st2:Sts) (lo:Nat),Pa c (λk=>X k\/k=w.heap.size) P w2 r2 st2 d->Fr (ndW w).heap.size P (ndW w) w2->w.heap.size<=lo->KdX (λk=>lo<=k/\Im (λk=>X k\/k=w.heap.size) w2 P k) w2 z n.kids->((y≠0/\q = .inl (r2,y))\/(y=0/\q = .inr (n,r2,st2))) ->
  NA c X P d q w (.returned (.tuple #[.agg #[.int .i64 n.k,.int .i64 n.s,z],.int .i64 y])) (set3 w2 w.heap.size (.int .i64 n.k) (.int .i64 n.s) z)):=λw2 n z y r2 st2 lo hp2 hf2 hlo hk hq2=>by
  obtain ⟨g1,g2,g3⟩:=fin3 hp2 (hf2.keep _ (by rw [HSZ.out];omega) HIR.out).2 (HF0.out.then hf2 (by rw [HSZ.out];omega)) (Nat.le_refl _) hk hlo (.int .i64 n.k) (.int .i64 n.s) z;exact ⟨n,z,y,r2,st2,rfl,g3,g1,g2,hq2⟩
 have ROW:Hid (∀(w2:World),Fr (ndW w).heap.size P (ndW w) w2->w2.heap[w.heap.size]? = some (.cells #[.int .i64 0,.int .i64 0,.slice none 0 0] 39 (0,0))/\w.heap.size<w2.heap.size):=λw2 hf2=>by
  obtain ⟨g1,g2⟩:=hf2.keep _ (by rw [HSZ.out];omega) HIR.out;exact ⟨g1.trans HE0.out,g2.1⟩
 clear hq hpa hin HIR HE0 HF0;go_enter Tryz.func210,Tryz.ntmps210;cases h2:tkSign 40 t with
 | true =>
  rw [h2] at h1
  go_wp2_with fail
  refine h1.mono ?_;rintro e w1 ⟨rfl,hB1⟩;clear h1;have h3:=HIN.out _ w1 (HP0.out.below hB1) h2;have HF1:Hid (Fr (ndW w).heap.size P (ndW w) w1):=HP0.out.fr hB1;clear HIN
  go_wp2_with fail
  refine h3.mono ?_;rintro e w2 ⟨n,z,y,r2,st2,rfl,hz,hp,hf,hq⟩;obtain ⟨za,zc,rfl,_⟩:=hz.slice;unfold ndV;have hf2:=HF1.out.then hf HF1.out.size
  obtain ⟨hR,hlw⟩:=ROW.out w2 hf2;have HR3:Hid (w2.heap[w.heap.size]? = some (.cells #[.int .i64 0,.int .i64 0,.slice none 0 0] 39 (0,0))):=hR;have HFN:Hid _:=FIN.out w2 n (.slice za n.kids.length zc) y r2 st2 w1.heap.size hp hf2 (by have:=HF1.out.size;rw [HSZ.out] at this;omega) hz hq;have d0:w2.cell? ⟨w.heap.size,0,none⟩=some (.int .i64 0):=cell_of_row _ _ 0 _ _ _ hR;have df0:w2.frozen? ⟨w.heap.size,0,none⟩=false:=frozen_of_row _ _ 0 _ _ hR;have d1:w2.cell? ⟨w.heap.size,1,none⟩=some (.int .i64 0):=cell_of_row _ _ 1 _ _ _ hR;have df1:w2.frozen? ⟨w.heap.size,1,none⟩=false:=frozen_of_row _ _ 1 _ _ hR;have d2:w2.cell? ⟨w.heap.size,2,none⟩=some (.slice none 0 0):=cell_of_row _ _ 2 _ _ _ hR;have df2:w2.frozen? ⟨w.heap.size,2,none⟩=false:=frozen_of_row _ _ 2 _ _ hR;clear h3 hp hf hz hR hf2 hq;go_wp2;refine bodyPost_ret (results_row_tmp rfl _ _ w.heap.size 39 #[.int .i64 n.k,.int .i64 n.s,.slice za n.kids.length zc] (0,0) _ rfl ?_ Tryz.underlying39 rfl (by kernel_rfl)) rfl ?_
  · exact set3_row HR3.out _ _ _
  exact HFN.out
 | false =>
  rw [h2] at h1;have HE1:Hid (q=seM st t r (setM c.N t)):=HQ.out.trans (partM_set h2);clear HIN HQ
  go_wp2_with fail
  refine h1.mono ?_;rintro e w1 ⟨rfl,hB1⟩;clear h1;have HP1:Hid (Pa c (λk=>X k\/k=w.heap.size) P w1 (t::r) st d):=HP0.out.below hB1;have h5:=set_ans c _ P w1 t r st d HP1.out;obtain ⟨q2,hq2⟩ :∃q2,q2=setM c.N t:=⟨_,rfl⟩;have HQ2:Hid (q2=setM c.N t):=hq2;rw [<- hq2] at h5 HE1;clear hq2
  go_wp2_with fail
  refine h5.mono ?_;rintro e w3 ⟨⟨x,rfl,hx,rfl⟩ | ⟨s,v,rfl,hs,hr,rfl⟩,hB3⟩
  · have hx':(x != 0)=true:=by simpa using hx
    have hp3:=HP1.out.below hB3;have hf3:=HP0.out.fr (below_after hB1 hB3);obtain ⟨hR,hlw⟩:=ROW.out w3 hf3;have HR3:Hid (w3.heap[w.heap.size]? = some (.cells #[.int .i64 0,.int .i64 0,.slice none 0 0] 39 (0,0))):=hR;have HFN:Hid _:=FIN.out w3 ⟨0,0,[]⟩ (.slice none 0 0) x (t::r) st w.heap.size hp3 hf3 (Nat.le_refl _) (KdX.nil _ _) (.inl ⟨hx,HE1.out⟩);have d0:w3.cell? ⟨w.heap.size,0,none⟩=some (.int .i64 0):=cell_of_row _ _ 0 _ _ _ hR;have df0:w3.frozen? ⟨w.heap.size,0,none⟩=false:=frozen_of_row _ _ 0 _ _ hR;have d1:w3.cell? ⟨w.heap.size,1,none⟩=some (.int .i64 0):=cell_of_row _ _ 1 _ _ _ hR;have df1:w3.frozen? ⟨w.heap.size,1,none⟩=false:=frozen_of_row _ _ 1 _ _ hR;have d2:w3.cell? ⟨w.heap.size,2,none⟩=some (.slice none 0 0):=cell_of_row _ _ 2 _ _ _ hR;have df2:w3.frozen? ⟨w.heap.size,2,none⟩=false:=frozen_of_row _ _ 2 _ _ hR;clear hx h5 hp3 hf3 hR;go_wp2;refine bodyPost_ret (results_row_tmp rfl _ _ w.heap.size 39 #[.int .i64 0,.int .i64 0,.slice none 0 0] (0,0) _ rfl ?_ Tryz.underlying39 rfl (by kernel_rfl)) rfl ?_
    · exact set3_row HR3.out _ _ _
    exact HFN.out
  · have h6:=place_ans c _ P w3 (t::r) st d (HP1.out.below hB3) v s hr hs;have HF3:Hid (Fr (ndW w).heap.size P (ndW w) w3):=HP0.out.fr (below_after hB1 hB3);obtain ⟨va,vc,rfl⟩:=hr.slice;obtain ⟨o,ho⟩ :∃o,o=placeM st s:=⟨_,rfl⟩;have HE2:Hid (q=plM t r o):=by
     show _=_;rw [HE1.out,ho];rfl
    rw [<- ho] at h6;have HK:Hid (t.k≠4):=setM_end HQ2.out.symm;clear h5 hs hr ho HE1
    go_wp2_with fail
    refine h6.mono ?_;rintro e w4 ⟨hf4,⟨rfl,rfl,hp4⟩ | ⟨i,st',rfl,rfl,hp4⟩⟩
    · have hf34:=HF3.out.then hf4 HF3.out.size
      obtain ⟨hR,hlw⟩:=ROW.out w4 hf34;have HR3:Hid (w4.heap[w.heap.size]? = some (.cells #[.int .i64 0,.int .i64 0,.slice none 0 0] 39 (0,0))):=hR;have HFN:Hid _:=FIN.out w4 ⟨1,0,[]⟩ (.slice none 0 0) 3 (t::r) st w.heap.size hp4 hf34 (Nat.le_refl _) (KdX.nil _ _) (.inl ⟨by decide,HE2.out⟩);have d0:w4.cell? ⟨w.heap.size,0,none⟩=some (.int .i64 0):=cell_of_row _ _ 0 _ _ _ hR;have df0:w4.frozen? ⟨w.heap.size,0,none⟩=false:=frozen_of_row _ _ 0 _ _ hR;have d1:w4.cell? ⟨w.heap.size,1,none⟩=some (.int .i64 0):=cell_of_row _ _ 1 _ _ _ hR;have df1:w4.frozen? ⟨w.heap.size,1,none⟩=false:=frozen_of_row _ _ 1 _ _ hR;have d2:w4.cell? ⟨w.heap.size,2,none⟩=some (.slice none 0 0):=cell_of_row _ _ 2 _ _ _ hR;have df2:w4.frozen? ⟨w.heap.size,2,none⟩=false:=frozen_of_row _ _ 2 _ _ hR;clear h6 hp4 hf4 hR hf34;go_wp2;refine bodyPost_ret (results_row_tmp rfl _ _ w.heap.size 39 #[.int .i64 1,.int .i64 0,.slice none 0 0] (0,0) _ rfl ?_ Tryz.underlying39 rfl (by kernel_rfl)) rfl ?_
      · exact set3_row HR3.out _ _ _
      exact HFN.out
    · have HF4:Hid (Fr (ndW w).heap.size P (ndW w) w4):=HF3.out.then hf4 HF3.out.size
      have h7:=take_any c _ P w4 t r st' d hp4 HK.out;clear h6
      go_wp2_with fail
      refine h7.mono ?_;rintro e w5 ⟨rfl,hp5,hf5,_⟩;have hf45:=HF4.out.then hf5 HF4.out.size
      obtain ⟨hR,hlw⟩:=ROW.out w5 hf45;have HR3:Hid (w5.heap[w.heap.size]? = some (.cells #[.int .i64 0,.int .i64 0,.slice none 0 0] 39 (0,0))):=hR;have HFN:Hid _:=FIN.out w5 ⟨1,i,[]⟩ (.slice none 0 0) 0 r st' w.heap.size hp5 hf45 (Nat.le_refl _) (KdX.nil _ _) (.inr ⟨rfl,HE2.out⟩);have d0:w5.cell? ⟨w.heap.size,0,none⟩=some (.int .i64 0):=cell_of_row _ _ 0 _ _ _ hR;have df0:w5.frozen? ⟨w.heap.size,0,none⟩=false:=frozen_of_row _ _ 0 _ _ hR;have d1:w5.cell? ⟨w.heap.size,1,none⟩=some (.int .i64 0):=cell_of_row _ _ 1 _ _ _ hR;have df1:w5.frozen? ⟨w.heap.size,1,none⟩=false:=frozen_of_row _ _ 1 _ _ hR;have d2:w5.cell? ⟨w.heap.size,2,none⟩=some (.slice none 0 0):=cell_of_row _ _ 2 _ _ _ hR;have df2:w5.frozen? ⟨w.heap.size,2,none⟩=false:=frozen_of_row _ _ 2 _ _ hR;clear h7 hp5 hf5 hR hf45 hp4 hf4;go_wp2;refine bodyPost_ret (results_row_tmp rfl _ _ w.heap.size 39 #[.int .i64 1,.int .i64 (i:Int),.slice none 0 0] (0,0) _ rfl ?_ Tryz.underlying39 rfl (by kernel_rfl)) rfl ?_
      · exact set3_row HR3.out _ _ _
      exact HFN.out
theorem part_zero:PartC 0:=part_step 0 (λc X P w t r st d hd hp h=>by
 obtain rfl:d=20:=by omega
 rw [partM_br0 h];exact bracketN_full c X P w (t::r) st hp)
theorem part_succ (b:Nat) (h:RegexC b):PartC (b+1):=part_step (b+1) (λc X P w t r st d hd hp ht=>by
 rw [partM_br ht];exact bracketN_any c X P w t r st d _ (by omega) (sign_end ht) hp (h c P r st (d+1) (by omega)))
set_option maxHeartbeats 16000000
set_option maxRecDepth 100000
def sgM:NR Nd->NR Nd
 | .inl e => .inl e
 | .inr (n,r,st)=>signF 4 (cntN 4 n) n r st
theorem signedM_eq (p:List Tok->Sts->NR Nd) (ts:List Tok) (st:Sts):signedM p ts st=sgM (p ts st):=by
 unfold signedM;cases h:p ts st with
 | inl e=>rfl
 | inr x=>rfl
theorem signF_on {f c:Nat} {n:Nd} {ts:List Tok} {st:Sts} (h:¬kindT (hdT ts)=0) (h3:¬c=3):signF (f+1) c n ts st=signF f (c+1) ⟨kindT (hdT ts),0,[n]⟩ ts.tail st:=by
 rw [signF,if_neg h,if_neg h3]
theorem KdX.one {Q:Nat->Prop} {w:World} {n:Nd} {z:Value} {S:Nat} (hS:w.heap[S]? = some (.cells #[.int .i64 n.k,.int .i64 n.s,z] 39 (0,0))) (hq:Q S) (h:KdX Q w z n.kids):KdX Q w (.slice (some ⟨S,0,none⟩) 1 1) [n]:=by
 obtain ⟨f,h⟩:=h;refine ⟨f+1,some ⟨S,0,none⟩,1,rfl,Nat.le_refl _,λi hi => ?_⟩;obtain rfl:i=0:=by simp at hi;omega
 exact ⟨S,0,z,rfl,hq,cell_of_row _ _ 0 _ _ _ hS,cell_of_row _ _ 1 _ _ _ hS,cell_of_row _ _ 2 _ _ _ hS,h⟩
theorem signed_any (c:Pc) (P:Nat) (ts:List Tok) (st:Sts) (d:Nat) (q0:NR Nd) (hpart:NFn 210 c P ts st d q0) (hok:∀n r st',q0 = .inr (n,r,st')->SgOk n):NFn 186 c P ts st d (sgM q0):=λX w hpa=>by
 have hPl:=hpa.lt;have h1:=hpart _ _ (hpa.alloc (.cells #[.int .i64 0,.int .i64 0,.slice none 0 0] 39));obtain ⟨q,hq⟩ :∃q,q=sgM q0:=⟨_,rfl⟩;have HQ:Hid (q=sgM q0):=hq;have HOK:Hid (∀n r st',q0 = .inr (n,r,st')->SgOk n):=hok;rw [<- hq];have HIR:Hid (Im NoX (ndW w) P w.heap.size):=hpa.im_new _;have HE0:Hid ((ndW w).heap[w.heap.size]? = some (.cells #[.int .i64 0,.int .i64 0,.slice none 0 0] 39 (0,0))):=heap_new' _ _;have HF0:Hid (Fr w.heap.size P w (ndW w)):=hpa.fr (below_alloc _ _);have HSZ:Hid ((ndW w).heap.size=w.heap.size+1):=by show _=_;simp
 have FIN:Hid (∀(w2:World) (n:Nd) (z:Value) (y:Int) (r2:List Tok) (st2:Sts) (lo:Nat),Pa c (λk=>X k\/k=w.heap.size) P w2 r2 st2 d->Fr (ndW w).heap.size P (ndW w) w2->w.heap.size<=lo->KdX (λk=>lo<=k/\Im (λk=>X k\/k=w.heap.size) w2 P k) w2 z n.kids->((y≠0/\q = .inl (r2,y))\/(y=0/\q = .inr (n,r2,st2))) ->
  NA c X P d q w (.returned (.tuple #[.agg #[.int .i64 n.k,.int .i64 n.s,z],.int .i64 y])) (set3 w2 w.heap.size (.int .i64 n.k) (.int .i64 n.s) z)):=λw2 n z y r2 st2 lo hp2 hf2 hlo hk hq2=>by
  obtain ⟨g1,g2,g3⟩:=fin3 hp2 (hf2.keep _ (by rw [HSZ.out];omega) HIR.out).2 (HF0.out.then hf2 (by rw [HSZ.out];omega)) (Nat.le_refl _) hk hlo (.int .i64 n.k) (.int .i64 n.s) z;exact ⟨n,z,y,r2,st2,rfl,g3,g1,g2,hq2⟩
 have ROW:Hid (∀(w2:World),Fr (ndW w).heap.size P (ndW w) w2->w2.heap[w.heap.size]? = some (.cells #[.int .i64 0,.int .i64 0,.slice none 0 0] 39 (0,0))/\w.heap.size<w2.heap.size):=λw2 hf2=>by
  obtain ⟨g1,g2⟩:=hf2.keep _ (by rw [HSZ.out];omega) HIR.out;exact ⟨g1.trans HE0.out,g2.1⟩
 clear hq hpa hpart hok HIR HE0 HF0;go_enter Tryz.func186,Tryz.ntmps186
 go_wp2_with fail
 refine h1.mono ?_;rintro e w1 ⟨n,z,y,r,st1,rfl,hz,hp,hf,hq⟩;obtain ⟨za,zc,rfl,_⟩:=hz.slice;unfold ndV;have hlo:w.heap.size<w1.heap.size:=(ROW.out w1 hf).2;rcases hq with ⟨hy,rfl⟩ | ⟨rfl,rfl⟩
 · have hy':(y != 0)=true:=by simpa using hy
   have hB1:=below_alloc w1 (.cells #[.int .i64 n.k,.int .i64 n.s,.slice za n.kids.length zc] 39);have hf1:=hf.then (hp.fr hB1) hf.size
   obtain ⟨hR,_⟩:=ROW.out w1 hf;obtain ⟨hRa,_⟩:=ROW.out _ hf1;have HRa:Hid ((w1.alloc (.cells #[.int .i64 n.k,.int .i64 n.s,.slice za n.kids.length zc] 39)).heap[w.heap.size]? = some (.cells #[.int .i64 0,.int .i64 0,.slice none 0 0] 39 (0,0))):=hRa;have HFN:Hid _:=FIN.out _ ⟨0,0,[]⟩ (.slice none 0 0) y r st1 w.heap.size (hp.below hB1) hf1 (Nat.le_refl _) (KdX.nil _ _) (.inl ⟨hy,HQ.out⟩);have d0:w1.cell? ⟨w.heap.size,0,none⟩=some (.int .i64 0):=cell_of_row _ _ 0 _ _ _ hR;have df0:w1.frozen? ⟨w.heap.size,0,none⟩=false:=frozen_of_row _ _ 0 _ _ hR;have d1:w1.cell? ⟨w.heap.size,1,none⟩=some (.int .i64 0):=cell_of_row _ _ 1 _ _ _ hR;have df1:w1.frozen? ⟨w.heap.size,1,none⟩=false:=frozen_of_row _ _ 1 _ _ hR;have d2:w1.cell? ⟨w.heap.size,2,none⟩=some (.slice none 0 0):=cell_of_row _ _ 2 _ _ _ hR;have df2:w1.frozen? ⟨w.heap.size,2,none⟩=false:=frozen_of_row _ _ 2 _ _ hR;clear h1 hp hf hz hR hRa hf1 hB1 hy;go_wp2;refine bodyPost_ret (results_row_tmp rfl _ _ w.heap.size 39 #[.int .i64 0,.int .i64 0,.slice none 0 0] (0,0) _ rfl ?_ Tryz.underlying39 rfl (by kernel_rfl)) rfl ?_
   · rw [set3_alloc w1 w.heap.size _ _ _ _ hlo];exact set3_row HRa.out _ _ _
   rw [set3_alloc w1 w.heap.size _ _ _ _ hlo];exact HFN.out
 · obtain ⟨cc,hc3,hch⟩:=HOK.out n r st1 rfl;have hcnt:=hch.cnt 4 (by omega);have HEQ:Hid (q=signF 4 cc n r st1):=by
    show _=_;rw [HQ.out,<- hcnt];rfl
   have hB1:=below_alloc w1 (.cells #[.int .i64 n.k,.int .i64 n.s,.slice za n.kids.length zc] 39);have hpT:=hp.alloc (.cells #[.int .i64 n.k,.int .i64 n.s,.slice za n.kids.length zc] 39);have hIT:=hp.im_new (.cells #[.int .i64 n.k,.int .i64 n.s,.slice za n.kids.length zc] 39);have hET:=heap_new' w1 (.cells #[.int .i64 n.k,.int .i64 n.s,.slice za n.kids.length zc] 39);have hf1:=hf.then (hp.fr hB1) hf.size
   have hzT:KdX (λk=>(ndW w).heap.size<=k/\Im (λk=>(X k\/k=w.heap.size)\/k=w1.heap.size) (w1.alloc (.cells #[.int .i64 n.k,.int .i64 n.s,.slice za n.kids.length zc] 39)) P k) (w1.alloc (.cells #[.int .i64 n.k,.int .i64 n.s,.slice za n.kids.length zc] 39)) (.slice za n.kids.length zc) n.kids:=hz.to (λk hk=>by
    obtain ⟨g1,g2⟩:=(hp.fr hB1).all k hk.2;exact ⟨g1,hk.1,g2.no.with (λq=>q.elim g2.2.2.2 (λq=>by have:=hk.2.1;omega))⟩)
   have h2:=signs_any _ cc hc3 n (.slice za n.kids.length zc) _ (λk hk=>hk.2.1) hzT hch;unfold ndV at h2;have HPT:Hid (Pa c (λk=>(X k\/k=w.heap.size)\/k=w1.heap.size) P (w1.alloc (.cells #[.int .i64 n.k,.int .i64 n.s,.slice za n.kids.length zc] 39)) r st1 d):=hpT;have HIT:Hid (Im NoX (w1.alloc (.cells #[.int .i64 n.k,.int .i64 n.s,.slice za n.kids.length zc] 39)) P w1.heap.size):=hIT;have HET:Hid ((w1.alloc (.cells #[.int .i64 n.k,.int .i64 n.s,.slice za n.kids.length zc] 39)).heap[w1.heap.size]? = some (.cells #[.int .i64 n.k,.int .i64 n.s,.slice za n.kids.length zc] 39 (0,0))):=hET;have HF1:Hid (Fr (ndW w).heap.size P (ndW w) (w1.alloc (.cells #[.int .i64 n.k,.int .i64 n.s,.slice za n.kids.length zc] 39))):=hf1;have HZT:Hid (KdX (λk=>(ndW w).heap.size<=k/\Im (λk=>(X k\/k=w.heap.size)\/k=w1.heap.size) (w1.alloc (.cells #[.int .i64 n.k,.int .i64 n.s,.slice za n.kids.length zc] 39)) P k) (w1.alloc (.cells #[.int .i64 n.k,.int .i64 n.s,.slice za n.kids.length zc] 39)) (.slice za n.kids.length zc) n.kids):=hzT;clear h1 hp hf hz hB1 hpT hIT hET hf1 hzT hcnt hch HOK HQ
   go_wp2_with fail
   refine h2.mono ?_;rintro e w2 ⟨rfl,hB2⟩;have hp2:=HPT.out.below hB2;have hf2:=HF1.out.then (HPT.out.fr hB2) HF1.out.size
   obtain ⟨hET2,hIT2⟩:=(HPT.out.fr hB2).keep w1.heap.size HIT.out.1 HIT.out;have hz2:=HZT.out.fr (HPT.out.fr hB2);have hET3:=hET2.trans HET.out;clear h2 HPT HIT HET HF1 HZT hB2 hET2;go_wp2
   go_loopw [6] (λx wr=>∃(j f:Nat) (n:Nd) (a:Option Addr) (cp:Nat) (r:List Tok),x = .int .i64 (j:Int)/\j<=3/\4<=f+j/\Hid (q=signF f j n r st1)/\wr.heap[w1.heap.size]? = some (.cells #[.int .i64 n.k,.int .i64 n.s,.slice a n.kids.length cp] 39 (0,0))/\Im NoX wr P w1.heap.size /\
    KdX (λk=>(ndW w).heap.size<=k/\Im (λk=>(X k\/k=w.heap.size)\/k=w1.heap.size) wr P k) wr (.slice a n.kids.length cp) n.kids/\Pa c (λk=>(X k\/k=w.heap.size)\/k=w1.heap.size) P wr r st1 d/\Fr (ndW w).heap.size P (ndW w) wr) (λx _=>4-(intOf x).toNat)
   case atStart=>exact ⟨cc,4,n,za,zc,r,rfl,hc3,by omega,HEQ,hET3,hIT2,hz2,hp2,hf2⟩
   case round =>
    obtain ⟨j,f,n,a,cp,r,rfl,hj3,hfj,HEQ,hET,hIT,hz,hp,hf⟩:=hrel;obtain ⟨f,rfl⟩ :∃m,f=m+1:=⟨f-1,by omega⟩;obtain ⟨t,r',rfl⟩:=hp.ends.cons;have h3:=next_any c _ P wr t r' st1 d hp;obtain ⟨_,_,_,_,_,_,_,_,_,_,_,_,_,_,_,hby,_,_⟩:=hp.next;have HPR:Hid (Pa c (λk=>(X k\/k=w.heap.size)\/k=w1.heap.size) P wr (t::r') st1 d):=hp;have HZR:Hid (KdX (λk=>(ndW w).heap.size<=k/\Im (λk=>(X k\/k=w.heap.size)\/k=w1.heap.size) wr P k) wr (.slice a n.kids.length cp) n.kids):=hz;have HFR:Hid (Fr (ndW w).heap.size P (ndW w) wr):=hf;have HTR:Hid (wr.heap[w1.heap.size]? = some (.cells #[.int .i64 n.k,.int .i64 n.s,.slice a n.kids.length cp] 39 (0,0))/\Im NoX wr P w1.heap.size):=⟨hET,hIT⟩;have HFJ:Hid (j<=3/\4<=f+1+j):=⟨hj3,hfj⟩;clear hz hp hf hET hIT
    go_wp2_with fail
    refine h3.mono ?_;rintro e w3 ⟨v,rfl,hrv,hB3⟩;have h4:=kindOf_any t v (by obtain ⟨va,vc,e⟩:=hrv.slice;exact ⟨va,_,vc,e⟩) hby w3;obtain ⟨va,vc,rfl⟩:=hrv.slice;clear h3 hrv;unfold tokV at h4 ⊢;obtain ⟨kk,hkk⟩ :∃kk,kk=kindT t:=⟨_,rfl⟩;rw [<- hkk] at h4;have HKK:Hid (kk=kindT t):=hkk;clear hkk hby
    go_wp2_with fail
    refine h4.mono ?_;rintro e w4 ⟨rfl,hB4⟩;have hB34:=below_after hB3 hB4;have hf34:=HPR.out.fr hB34;have hp4:=HPR.out.below hB34;obtain ⟨hET4,hIT4⟩:=hf34.keep w1.heap.size HTR.out.2.1 HTR.out.2;have hET4':=hET4.trans HTR.out.1;have hf4:=HFR.out.then hf34 HFR.out.size
    obtain ⟨hR4,hlw4⟩:=ROW.out w4 hf4;have HR4:Hid (w4.heap[w.heap.size]? = some (.cells #[.int .i64 0,.int .i64 0,.slice none 0 0] 39 (0,0))):=hR4;have HP4:Hid (Pa c (λk=>(X k\/k=w.heap.size)\/k=w1.heap.size) P w4 (t::r') st1 d):=hp4;have HZ4:Hid (KdX (λk=>(ndW w).heap.size<=k/\Im (λk=>(X k\/k=w.heap.size)\/k=w1.heap.size) w4 P k) w4 (.slice a n.kids.length cp) n.kids):=HZR.out.fr hf34;have HF4:Hid (Fr (ndW w).heap.size P (ndW w) w4):=hf4;have HT4:Hid (w4.heap[w1.heap.size]? = some (.cells #[.int .i64 n.k,.int .i64 n.s,.slice a n.kids.length cp] 39 (0,0))/\Im NoX w4 P w1.heap.size):=⟨hET4',hIT4⟩;have d0:w4.cell? ⟨w.heap.size,0,none⟩=some (.int .i64 0):=cell_of_row _ _ 0 _ _ _ hR4;have df0:w4.frozen? ⟨w.heap.size,0,none⟩=false:=frozen_of_row _ _ 0 _ _ hR4;have d1:w4.cell? ⟨w.heap.size,1,none⟩=some (.int .i64 0):=cell_of_row _ _ 1 _ _ _ hR4;have df1:w4.frozen? ⟨w.heap.size,1,none⟩=false:=frozen_of_row _ _ 1 _ _ hR4;have d2:w4.cell? ⟨w.heap.size,2,none⟩=some (.slice none 0 0):=cell_of_row _ _ 2 _ _ _ hR4;have df2:w4.frozen? ⟨w.heap.size,2,none⟩=false:=frozen_of_row _ _ 2 _ _ hR4;have t0:w4.cell? ⟨w1.heap.size,0,none⟩=some (.int .i64 n.k):=cell_of_row _ _ 0 _ _ _ hET4';have tf0:w4.frozen? ⟨w1.heap.size,0,none⟩=false:=frozen_of_row _ _ 0 _ _ hET4';have t1:w4.cell? ⟨w1.heap.size,1,none⟩=some (.int .i64 n.s):=cell_of_row _ _ 1 _ _ _ hET4';have tf1:w4.frozen? ⟨w1.heap.size,1,none⟩=false:=frozen_of_row _ _ 1 _ _ hET4';have t2:w4.cell? ⟨w1.heap.size,2,none⟩=some (.slice a n.kids.length cp):=cell_of_row _ _ 2 _ _ _ hET4';have tf2:w4.frozen? ⟨w1.heap.size,2,none⟩=false:=frozen_of_row _ _ 2 _ _ hET4';have hlT:w1.heap.size<w4.heap.size:=hIT4.1;have hne:w.heap.size≠w1.heap.size:=by omega
    clear h4 hB34 hf34 hp4 hET4 hIT4 hET4' hf4 hR4 HPR HZR HFR HTR hB3 hB4;by_cases hk0:kk=0
    · have HE:Hid (q = .inr (n,t::r',st1)):=by
       show _=_;rw [HEQ.out];unfold signF;rw [if_pos (show kindT (hdT (t::r'))=0 by rw [<- hk0,HKK.out];rfl)]
      have hk0':(kk != 0)=false:=by simpa using hk0
      have HFN:Hid _:=FIN.out w4 n (.slice a n.kids.length cp) 0 (t::r') st1 (ndW w).heap.size (HP4.out.less (λk hk => .inl hk)) HF4.out (by rw [HSZ.out];omega) (HZ4.out.to (λk hk=>⟨rfl,hk.1,hk.2.less (λq => .inl q)⟩)) (.inr ⟨rfl,HE.out⟩);clear hk0;go_wp2;refine bodyPost_ret (results_row_tmp rfl _ _ w.heap.size 39 #[.int .i64 n.k,.int .i64 n.s,.slice a n.kids.length cp] (0,0) _ rfl ?_ Tryz.underlying39 rfl (by kernel_rfl)) rfl ?_
      · exact set3_row HR4.out _ _ _
      exact HFN.out
    · have hk0':(kk != 0)=true:=by simpa using hk0
      have hkt:¬kindT (hdT (t::r'))=0:=by rw [show kindT (hdT (t::r'))=kk by rw [HKK.out];rfl];exact hk0
      by_cases h3:j=3
      · have HE:Hid (q = .inl (t::r',3)):=by
         show _=_;rw [HEQ.out];unfold signF;rw [if_neg hkt,if_pos h3]
        have h3':((j:Int)==3)=true:=by simp;omega
        have HFN:Hid _:=FIN.out w4 ⟨0,0,[]⟩ (.slice none 0 0) 3 (t::r') st1 w.heap.size (HP4.out.less (λk hk => .inl hk)) HF4.out (Nat.le_refl _) (KdX.nil _ _) (.inl ⟨by decide,HE.out⟩);clear hk0 hkt h3;go_wp2;refine bodyPost_ret (results_row_tmp rfl _ _ w.heap.size 39 #[.int .i64 0,.int .i64 0,.slice none 0 0] (0,0) _ rfl ?_ Tryz.underlying39 rfl (by kernel_rfl)) rfl ?_
        · exact set3_row HR4.out _ _ _
        exact HFN.out
      · have HE:Hid (q=signF f (j+1) ⟨kk,0,[n]⟩ r' st1):=by
         show _=_;rw [HEQ.out,signF_on hkt h3,HKK.out];rfl
        have h3':((j:Int)==3)=false:=by simp;omega
        have hk4:t.k≠4:=kindT_end (t:=t) (by rw [<- HKK.out];exact hk0);have hj2:j<=2:=by omega
        have h5:=take_any c _ P w4 t r' st1 d HP4.out hk4;clear hk0 hkt h3 hk4 d0 d1 d2 df0 df1 df2 t0 t1 t2 tf0 tf1 tf2
        go_wp2_with fail
        refine h5.mono ?_;rintro e w5 ⟨rfl,hp5,hf5,hs5⟩;clear hs5;obtain ⟨hT5,hI5⟩:=hf5.keep w1.heap.size HT4.out.2.1 HT4.out.2;have hT5':=hT5.trans HT4.out.1;have HT5:Hid (w5.heap[w1.heap.size]? = some (.cells #[.int .i64 n.k,.int .i64 n.s,.slice a n.kids.length cp] 39 (0,0))/\Im NoX w5 P w1.heap.size):=⟨hT5',hI5⟩;have t0:w5.cell? ⟨w1.heap.size,0,none⟩=some (.int .i64 n.k):=cell_of_row _ _ 0 _ _ _ hT5';have tf0:w5.frozen? ⟨w1.heap.size,0,none⟩=false:=frozen_of_row _ _ 0 _ _ hT5';have t1:w5.cell? ⟨w1.heap.size,1,none⟩=some (.int .i64 n.s):=cell_of_row _ _ 1 _ _ _ hT5';have tf1:w5.frozen? ⟨w1.heap.size,1,none⟩=false:=frozen_of_row _ _ 1 _ _ hT5';have t2:w5.cell? ⟨w1.heap.size,2,none⟩=some (.slice a n.kids.length cp):=cell_of_row _ _ 2 _ _ _ hT5';have tf2:w5.frozen? ⟨w1.heap.size,2,none⟩=false:=frozen_of_row _ _ 2 _ _ hT5';have hlT5:w1.heap.size<w5.heap.size:=hI5.1;have HP5:Hid (Pa c (λk=>(X k\/k=w.heap.size)\/k=w1.heap.size) P w5 r' st1 d):=hp5;have HZ5:Hid (KdX (λk=>(ndW w).heap.size<=k/\Im (λk=>(X k\/k=w.heap.size)\/k=w1.heap.size) w5 P k) w5 (.slice a n.kids.length cp) n.kids):=HZ4.out.fr hf5;have HF5:Hid (Fr (ndW w).heap.size P (ndW w) w5):=HF4.out.then hf5 HF4.out.size
        clear h5 hp5 hf5 hT5 hT5' hI5;go_wp2
        go_roundw
        case rel =>
         have hB6:=below_alloc w5 (.cells #[.int .i64 n.k,.int .i64 n.s,.slice a n.kids.length cp] 39);have hf6:=HP5.out.fr hB6;have hp6:=HP5.out.below hB6;obtain ⟨hT6,hI6⟩:=hf6.keep w1.heap.size hlT5 HT5.out.2;have hS6:=heap_new' w5 (.cells #[.int .i64 n.k,.int .i64 n.s,.slice a n.kids.length cp] 39);have hIS:=HP5.out.fresh hB6 w5.heap.size (Nat.le_refl _) (by simp);have hne6:P≠w1.heap.size:=Ne.symm hI6.2.1;have hSne:w5.heap.size≠w1.heap.size:=by omega
         refine ⟨j+1,f,⟨kk,0,[n]⟩,some ⟨w5.heap.size,0,none⟩,1,r',by go_num,by omega,by have:=HFJ.out.2;omega,HE,?_,?_,?_,?_,?_⟩
         · rw [set3_alloc w5 w1.heap.size _ _ _ _ hlT5];exact set3_row (hT6.trans HT5.out.1) _ _ _
         · rw [set3_alloc w5 w1.heap.size _ _ _ _ hlT5];exact set3_im hne6 _ _ _ hI6
         · rw [set3_alloc w5 w1.heap.size _ _ _ _ hlT5];refine KdX.one (z := .slice a n.kids.length cp) ((set3_block _ _ _ _ _ _ hSne).trans hS6) ⟨by have:=HF5.out.size;omega,set3_im hne6 _ _ _ hIS⟩ ?_;exact (HZ5.out.fr hf6).to (λk hk=>⟨set3_block _ _ _ _ _ k (λq=>hk.2.2.2.2 (.inr q)),hk.1,set3_im hne6 _ _ _ hk.2⟩)
         · rw [set3_alloc w5 w1.heap.size _ _ _ _ hlT5];exact hp6.set3 (.inr rfl) hI6 _ _ _
         · rw [set3_alloc w5 w1.heap.size _ _ _ _ hlT5];have hf56:=HF5.out.then hf6 HF5.out.size
           exact hf56.trans (set3_fr _ (by rw [HSZ.out];omega) hne6 _ _ _)
        case measure=>simp [intOf];omega
end Go.Proofs.YtfdjchnckjgapaaGreatDoor
