/-
  Ints SxMath
-/
import Derived.Test.YtfdjchnckjgapaaGreatDoorZ03
import Derived.Test.YtfdjchnckjgapaaGreatDoorZ04
namespace Go.Proofs.YtfdjchnckjgapaaGreatDoor
set_option maxHeartbeats 4000000
set_option maxRecDepth 100000
open Go.RowKit
set_option linter.unusedVariables false
theorem cell_some_lt {w:World} {a:Addr} {v:Value} (h:w.cell? a=some v):a.block<w.heap.size:=by
 rcases Nat.lt_or_ge a.block w.heap.size with q | q
 · exact q
 · simp [World.cell?,Array.getElem?_eq_none q] at h
def SrcIs (w:World) (x:Value) (m size:Nat) (news:List Value):Prop :=
 (x = .slice none 0 0/\m=0/\news=[])\/∃ad c,x = .slice (some ad) m c/\news.length=m*size/\(∀j u,news[j]? = some u->w.cell? (ad.add j)=some u)/\∀u∈news,u.oneCell'=true
theorem SrcIs.below {w w':World} {x:Value} {m size:Nat} {news:List Value} (h:SrcIs w x m size news) (hb:Below w.heap.size w w'):SrcIs w' x m size news:=by
 rcases h with h | ⟨ad,c,e,hl,hc,h1⟩
 · exact .inl h
 · refine .inr ⟨ad,c,e,hl,λj u hj => ?_,h1⟩;have:=hc j u hj;rw [hb.cell (cell_some_lt this)];exact this
theorem src_of_row {w:World} {base e size:Nat} {v:Value} {n:Nat} {xs:List Value} (h:w.ownsRow base e size v n xs) (h1:∀u∈xs,u.oneCell'=true):SrcIs w v n size xs:=by
 have hl:=h.1;rcases h.2 with ⟨rfl,h0⟩ | ⟨g,cap,cur,rfl,hb,hg,hc,hm,hs,ht⟩
 · subst h0;exact .inl ⟨rfl,rfl,List.length_eq_zero_iff.1 (by simpa using hl)⟩
 · exact .inr ⟨⟨g,0,none⟩,cap,rfl,hl,λj u hj=>h.cells (g:=g) rfl j u hj,h1⟩
theorem wpList_append_src {P:Program} (w:World) {ops:Array Oper} {rest:List Oper} {o:Oper} {a:Act} {Q:Exit->Act->World->Prop} (hgd:o.guard=none) (s x:Operand) (t:TypeId)
 (ho:o.op = .call { callee := .builtin .append,args:=#[s,x],argTypes:=#[t,t] })
 (base:Nat) (e:TypeId) (i:TypeInfo) (z:Value) (size bytes:Nat) (ht:P.underlying t=some (.slice e)) (hi:P.info? e=some i) (hz:i.zero=some z)
 (hsize:i.size=size) (hby:i.bytes=bytes) (hzs:z.cells.size=size) (hsz:0<size)
 (v:Value) (n:Nat) (xs:List Value) (hs:a.eval s=v) (hown:w.ownsRow base e size v n xs) (y:Value) (hx:a.eval x=y)
 (m:Nat) (news:List Value) (hsrc:SrcIs w y m size news) (h63:n+m<=maxLen) (hbytes:(n+m)*bytes<=140737488355328) (hbase:base<=w.heap.size)
 (h:∀v' w',w'.ownsRow base e size v' (n+m) (xs++news)->w.grownBy w' v.ownBlock->wpList P ops Q rest (a.put o.dst v') w'):wpList P ops Q (o::rest) a w:=by
 subst hx;rcases hsrc with ⟨hx,rfl,rfl⟩ | ⟨ad,c,hx,hl,hc,h1⟩
 · refine wpList_append_own_none hgd s x t ho base e i size ht hi v n xs hs hown hx ?_;refine h v w (by simpa using hown) ⟨rfl,rfl,rfl,Nat.le_refl _,λ_ _ _=>rfl⟩
 · exact wpList_append_own w hgd s x t ho base e i z size bytes ht hi hz hsize hby hzs hsz v n xs hs hown ad m c news hx hl hc h1 h63 hbytes hbase λv' w' h2 h3 _=>h v' w' h2 h3
def IntsIn (w:World) (v:Value) (l:List Int):Prop :=
 ∃a cap,v = .slice a l.length cap/\l.length<=cap/\∀i,(h:i<l.length)->∃g off,a=some ⟨g,off,none⟩/\g<w.heap.size/\w.cell? ⟨g,off+i,none⟩=some (.int .i64 l[i])
theorem ints_of_row {w:World} {base:Nat} {v:Value} {zs:List Int} (h:w.ownsRow base 3 1 v zs.length (zs.map (Value.int .i64))):IntsIn w v zs:=by
 rcases h.2 with ⟨rfl,h0⟩ | ⟨g,cap,cur,rfl,hb,hg,hc,hm,hs,ht⟩
 · exact ⟨none,0,by rw [h0],by omega,λi hi=>by omega⟩
 · refine ⟨_,cap,rfl,hc,λi hi=>⟨g,0,rfl,(Array.getElem?_eq_some_iff.1 hg).1,?_⟩⟩;have:=h.cells (g:=g) rfl i (.int .i64 zs[i]) (by simp [hi]);rw [add_lit'] at this;exact this
theorem IntsIn.below {w w':World} {v:Value} {zs:List Int} (h:IntsIn w v zs) (hb:Below w.heap.size w w'):IntsIn w' v zs:=by
 obtain ⟨a,cap,rfl,hc,hi⟩:=h;refine ⟨a,cap,rfl,hc,λi hlt => ?_⟩;obtain ⟨g,off,rfl,hg,hj⟩:=hi i hlt;exact ⟨g,off,rfl,Nat.lt_of_lt_of_le hg hb.size,(hb.cell (p:=⟨g,off+i,none⟩) hg).trans hj⟩
theorem one_ints (k:IntKind) (l:List Int):∀u∈l.map (Value.int k),u.oneCell'=true:=λu hu=>by
 obtain ⟨n,_,rfl⟩:=List.mem_map.1 hu;rfl
theorem addr_add (g off j:Nat):(⟨g,off,none⟩:Addr).add j=⟨g,off+j,none⟩:=by unfold Addr.add;split<;>simp_all
theorem src_take {w:World} {g off cap:Nat} {l:List Int} (h:IntsIn w (.slice (some ⟨g,off,none⟩) l.length cap) l) (k:Nat) (hk:k<=l.length) (c:Nat):SrcIs w (.slice (some ⟨g,off,none⟩) k c) k 1 ((l.take k).map (Value.int .i64)):=by
 obtain ⟨a,cap',e,hc,hi⟩:=h;refine .inr ⟨_,c,rfl,by simp;omega,λj u hj => ?_,one_ints _ _⟩;have hjl:j<k:=by
  have:=(List.getElem?_eq_some_iff.1 hj).1;simp at this;omega
 obtain ⟨g',off',e2,hg,hcj⟩:=hi j (by omega);obtain ⟨rfl,rfl⟩:g=g'/\off=off':=by
  have:some (⟨g,off,none⟩:Addr)=some ⟨g',off',none⟩:=by rw [<- e2];simpa using (by simpa using e:_/\_).1
  simpa using this
 rw [addr_add,hcj];have e3:((l.take k).map (Value.int .i64))[j]? = some (.int .i64 l[j]):=by
  simp [hjl,show j<l.length by omega]
 rw [e3] at hj;exact hj
theorem src_drop {w:World} {g off cap:Nat} {l:List Int} (h:IntsIn w (.slice (some ⟨g,off,none⟩) l.length cap) l) (k:Nat) (hk:k<=l.length) (ad:Addr) (had:k<l.length->ad=⟨g,off+k,none⟩) (c:Nat):SrcIs w (.slice (some ad) (l.length-k) c) (l.length-k) 1 ((l.drop k).map (Value.int .i64)):=by
 obtain ⟨a,cap',e,hc,hi⟩:=h;refine .inr ⟨_,c,rfl,by simp,λj u hj => ?_,one_ints _ _⟩;have hjl:j<l.length-k:=by
  have:=(List.getElem?_eq_some_iff.1 hj).1;simpa using this
 obtain ⟨g',off',e2,hg,hcj⟩:=hi (k+j) (by omega);obtain ⟨rfl,rfl⟩:g=g'/\off=off':=by
  have:some (⟨g,off,none⟩:Addr)=some ⟨g',off',none⟩:=by rw [<- e2];simpa using (by simpa using e:_/\_).1
  simpa using this
 rw [had (by omega),addr_add,Nat.add_assoc,hcj];have e3:((l.drop k).map (Value.int .i64))[j]? = some (.int .i64 l[k+j]):=by
  simp [show k+j<l.length by omega]
 rw [e3] at hj;exact hj
theorem insE_at:∀(l:List Int) (n:Int) (k:Nat),k<=l.length->(∀i,(h:i<l.length)->i<k->l[i]<n)->(∀h:k<l.length,n<=l[k])->insE l n=if (∃h:k<l.length,l[k]=n) then l else l.take k++n::l.drop k
 | [],n,k,hk,_,_=>by
  obtain rfl:k=0:=by simpa using hk
  rw [if_neg (by rintro ⟨h,_⟩;cases h)];rfl
 | y::l,n,0,hk,_,h2=>by
  have h3:n<=y:=h2 (by simp);unfold insE;rw [if_neg (by omega)];by_cases q:y=n
  · rw [if_pos q,if_pos ⟨by simp,q⟩]
  · rw [if_neg q,if_neg (by rintro ⟨_,z⟩;exact q z)];rfl
 | y::l,n,k+1,hk,h1,h2=>by
  have h3:y<n:=h1 0 (by simp) (by omega);have ih:=insE_at l n k (by simpa using hk) (λi h q=>by have:=h1 (i+1) (by simpa using h) (by omega);simpa using this) (λh=>by have:=h2 (by simpa using h);simpa using this);unfold insE;rw [if_pos h3,ih];by_cases q :∃h:k<l.length,l[k]=n
  · rw [if_pos q,if_pos (by obtain ⟨h,e⟩:=q;exact ⟨by simpa using h,by simpa using e⟩)]
  · rw [if_neg q,if_neg (by rintro ⟨h,e⟩;exact q ⟨by simpa using h,by simpa using e⟩)];rfl
theorem owns_empty (w:World) (base e size:Nat) (hb:base<=w.heap.size):(w.alloc (.cells #[] e)).ownsRow base e size (.slice (some ⟨w.heap.size,0,none⟩) 0 0) 0 [] :=
 ⟨by simp,.inr ⟨w.heap.size,0,#[],rfl,hb,heap_new' w _,Nat.le_refl _,by unfold maxLen;omega,by simp,by simp⟩⟩
theorem src_one (w:World) (n:Int):SrcIs (w.alloc (.cells #[.int .i64 n] 3)) (.slice (some ⟨w.heap.size,0,none⟩) 1 1) 1 1 [.int .i64 n] :=
 .inr ⟨_,1,rfl,rfl,World.news_of_block (heap_new' w _),by simp [Value.oneCell']⟩
theorem rising_any (l:List Int) (n:Int) (v:Value) (w:World) (h1:1<=l.length) (hlen:l.length<=100000) (hv:IntsIn w v l) :
 Calls Tryz.prog 173 #[v,.int .i64 n] w λe w'=>∃v',e = .returned v'/\IntsIn w' v' (insE l n)/\Below w.heap.size w w':=by
 obtain ⟨iI,hiI,hzI0,hzI1,hzI2⟩:=info_parts Tryz.infoInt;have HV0:Hid (IntsIn w v l):=hv;obtain ⟨a,cap,rfl,hc,hcell⟩:=hv;obtain ⟨g,off,rfl,hg,_⟩:=hcell 0 (by omega);have HA:Hid (∀i,(h:i<l.length)->w.cell? ⟨g,off+i,none⟩=some (.int .i64 l[i])):=λi h=>by
  obtain ⟨g',off',e,_,hc'⟩:=hcell i h;obtain ⟨rfl,rfl⟩:g=g'/\off=off':=by simpa using e
  exact hc'
 have HV:Hid (IntsIn w (.slice (some ⟨g,off,none⟩) l.length cap) l):=HV0;clear hcell HV0;go_enter Tryz.func173,Tryz.ntmps173;go_wp2
 go_loopw [5] (λx wr=>∃k:Nat,k<=l.length/\x = .int .i64 k/\(∀i,(h:i<l.length)->i<k->l[i]<n)/\wr=w) (λx _=>l.length-(intOf x).toNat)
 case atStart=>exact ⟨0,Nat.zero_le _,rfl,λi h q=>by omega,rfl⟩
 case round =>
  obtain ⟨k,hk,rfl,hlo,rfl⟩:=hrel;have HLO:Hid (∀i,(h:i<l.length)->i<k->l[i]<n):=hlo;clear hlo;have hown0:=owns_empty wr wr.heap.size 3 1 (Nat.le_refl _);have HO0:Hid ((wr.alloc (.cells #[] 3)).ownsRow wr.heap.size 3 1 (.slice (some ⟨wr.heap.size,0,none⟩) 0 0) 0 []):=hown0;have HS1:Hid (SrcIs (wr.alloc (.cells #[] 3)) (.slice (some ⟨g,off,none⟩) k cap) k 1 ((l.take k).map (Value.int .i64))):=(src_take HV.out k hk cap).below ((Below.refl _ _).alloc (Nat.le_refl _) _);clear hown0;by_cases hlt:k<l.length
  · have hck:=HA.out k hlt;obtain ⟨y,hy⟩ :∃y,y=l[k]:=⟨_,rfl⟩;rw [<- hy] at hck;have HY:Hid (y=l[k]):=hy;clear hy;have hk':(k:Int)<(l.length:Int):=by omega
    by_cases q:y<n
    · have HL2:Hid (∀i,(h:i<l.length)->i<k+1->l[i]<n):=λi h z=>by
       by_cases e:i=k
       · subst e;rw [<- HY.out];exact q
       · exact HLO.out i h (by omega)
      go_wp2
      go_roundw
      case rel=>exact ⟨k+1,by omega,by go_num,HL2.out,trivial⟩
      case measure=>simp [intOf];omega
    · have HI:Hid _:=insE_at l n k hk HLO.out (λ_=>by rw [<- HY.out];omega);by_cases q2:y=n
      · have HE:Hid (insE l n=l):=by
         show _=_;rw [HI.out,if_pos ⟨hlt,by rw [<- HY.out];exact q2⟩]
        have hq2:(y==n)=true:=by simp [q2]
        clear q2;go_wp2;go_ret;exact ⟨_,rfl,by rw [HE.out];exact HV.out,Below.refl _ _⟩
      · have HE:Hid (insE l n=l.take k++n::l.drop k):=by
         show _=_;rw [HI.out,if_neg (by rintro ⟨_,z⟩;exact q2 (by rw [HY.out];exact z))]
        have hq2:(y==n)=false:=by simp [q2]
        clear q2 HI;have HAD:Hid (∀W,Below wr.heap.size wr W->SrcIs W (.slice (some ⟨g,off+k,none⟩) (l.length-k) (cap-k)) (l.length-k) 1 ((l.drop k).map (Value.int .i64))):=λW hW=>(src_drop HV.out k hk ⟨g,off+k,none⟩ (λ_=>rfl) (cap-k)).below hW
        go_wp2_with (first | (at_builtin;refine wpList_append_src _ rfl (.tmp 34) (.tmp 37) 168 rfl wr.heap.size 3 iI (.int .i64 0) 1 8 Tryz.underlying168 hiI hzI0 hzI1 hzI2 rfl (by decide) _ _ _ rfl HO0.out _ rfl k _ HS1.out (by unfold maxLen;omega) (by omega) (by simp) ?_;intro v1 w1 ho1 hg1;have hB1:Below wr.heap.size wr w1:=((Below.refl _ _).alloc (Nat.le_refl _) _).grown hg1 (by simp) (λj e=>(World.ownsRow.lt HO0.out j e).1);have hs1:=hB1.size;have ho1':=World.ownsRow.alloc ho1 (.cells #[.int .i64 n] 3);have hsr1:=src_one w1 n;have HO1:Hid ((w1.alloc (.cells #[.int .i64 n] 3)).ownsRow wr.heap.size 3 1 v1 (0+k) ([]++(l.take k).map (Value.int .i64))):=ho1';clear ho1 ho1' hg1) | (at_builtin;refine wpList_append_src _ rfl (.tmp 39) (.tmp 41) 168 rfl wr.heap.size 3 iI (.int .i64 0) 1 8 Tryz.underlying168 hiI hzI0 hzI1 hzI2 rfl (by decide) _ _ _ rfl HO1.out _ rfl 1 _ hsr1 (by unfold maxLen;omega) (by omega) (by simp;omega) ?_;intro v2 w2 ho2 hg2;have hB2:Below wr.heap.size wr w2:=(hB1.alloc hs1 _).grown hg2 (by simp;omega) (λj e=>(World.ownsRow.lt HO1.out j e).1);have hs2:=hB2.size;have hsr2:=HAD.out w2 hB2;have HO2:Hid (w2.ownsRow wr.heap.size 3 1 v2 (0+k+1) ([]++(l.take k).map (Value.int .i64)++[.int .i64 n])):=ho2;clear ho2 hg2 hsr1) | (at_builtin;refine wpList_append_src _ rfl (.tmp 43) (.tmp 46) 168 rfl wr.heap.size 3 iI (.int .i64 0) 1 8 Tryz.underlying168 hiI hzI0 hzI1 hzI2 rfl (by decide) _ _ _ rfl HO2.out _ rfl (l.length-k) _ hsr2 (by unfold maxLen;omega) (by omega) (by omega) ?_;intro v3 w3 ho3 hg3))
        go_ret;refine ⟨v3,rfl,?_,hB2.grown hg3 hs2 (λj e=>(World.ownsRow.lt HO2.out j e).1)⟩;rw [HE.out];refine ints_of_row (base:=wr.heap.size) ?_;have e:(l.take k++n::l.drop k).length=0+k+1+(l.length-k):=by simp;omega
        rw [e];simpa using ho3
  · obtain rfl:k=l.length:=by omega
    have HI:Hid _:=insE_at l n l.length (Nat.le_refl _) HLO.out (λh=>absurd h (Nat.lt_irrefl _));have HE:Hid (insE l n=l.take l.length++n::l.drop l.length):=by
     show _=_;rw [HI.out,if_neg (by rintro ⟨z,_⟩;exact Nat.lt_irrefl _ z)]
    have hid:decide ((l.length:Int)<(l.length:Int))=false:=by simp
    clear HI;have HAD:Hid (∀W ad c,SrcIs W (.slice (some ad) 0 c) 0 1 []):=λW ad c => .inr ⟨ad,c,rfl,rfl,λj u hj=>by simp at hj,λu hu=>by cases hu⟩;by_cases hcl:cap=l.length
    · subst hcl
      go_wp2_with (first | (at_builtin;refine wpList_append_src _ rfl (.tmp 34) (.tmp 37) 168 rfl wr.heap.size 3 iI (.int .i64 0) 1 8 Tryz.underlying168 hiI hzI0 hzI1 hzI2 rfl (by decide) _ _ _ rfl HO0.out _ rfl l.length _ HS1.out (by unfold maxLen;omega) (by omega) (by simp) ?_;intro v1 w1 ho1 hg1;have hB1:Below wr.heap.size wr w1:=((Below.refl _ _).alloc (Nat.le_refl _) _).grown hg1 (by simp) (λj e=>(World.ownsRow.lt HO0.out j e).1);have hs1:=hB1.size;have ho1':=World.ownsRow.alloc ho1 (.cells #[.int .i64 n] 3);have hsr1:=src_one w1 n;have HO1:Hid ((w1.alloc (.cells #[.int .i64 n] 3)).ownsRow wr.heap.size 3 1 v1 (0+l.length) ([]++(l.take l.length).map (Value.int .i64))):=ho1';clear ho1 ho1' hg1) | (at_builtin;refine wpList_append_src _ rfl (.tmp 39) (.tmp 41) 168 rfl wr.heap.size 3 iI (.int .i64 0) 1 8 Tryz.underlying168 hiI hzI0 hzI1 hzI2 rfl (by decide) _ _ _ rfl HO1.out _ rfl 1 _ hsr1 (by unfold maxLen;omega) (by omega) (by simp;omega) ?_;intro v2 w2 ho2 hg2;have hB2:Below wr.heap.size wr w2:=(hB1.alloc hs1 _).grown hg2 (by simp;omega) (λj e=>(World.ownsRow.lt HO1.out j e).1);have hs2:=hB2.size;have hsr2:=HAD.out w2 ⟨g,off,none⟩ 0;have HO2:Hid (w2.ownsRow wr.heap.size 3 1 v2 (0+l.length+1) ([]++(l.take l.length).map (Value.int .i64)++[.int .i64 n])):=ho2;clear ho2 hg2 hsr1) | (at_builtin;go_must (refine wpList_append_src _ rfl (.tmp 43) (.tmp 46) 168 rfl wr.heap.size 3 iI (.int .i64 0) 1 8 Tryz.underlying168 hiI hzI0 hzI1 hzI2 rfl (by decide) _ _ _ rfl HO2.out _ rfl 0 [] hsr2 (by unfold maxLen;omega) (by omega) (by omega) ?_);intro v3 w3 ho3 hg3))
      go_ret;refine ⟨v3,rfl,?_,hB2.grown hg3 hs2 (λj e=>(World.ownsRow.lt HO2.out j e).1)⟩;rw [HE.out];refine ints_of_row (base:=wr.heap.size) ?_;have e:(l.take l.length++n::l.drop l.length).length=0+l.length+1+0:=by simp
      rw [e];simpa using ho3
    · have hcl':(cap==l.length)=false:=by simp [hcl]
      go_wp2_with (first | (at_builtin;refine wpList_append_src _ rfl (.tmp 34) (.tmp 37) 168 rfl wr.heap.size 3 iI (.int .i64 0) 1 8 Tryz.underlying168 hiI hzI0 hzI1 hzI2 rfl (by decide) _ _ _ rfl HO0.out _ rfl l.length _ HS1.out (by unfold maxLen;omega) (by omega) (by simp) ?_;intro v1 w1 ho1 hg1;have hB1:Below wr.heap.size wr w1:=((Below.refl _ _).alloc (Nat.le_refl _) _).grown hg1 (by simp) (λj e=>(World.ownsRow.lt HO0.out j e).1);have hs1:=hB1.size;have ho1':=World.ownsRow.alloc ho1 (.cells #[.int .i64 n] 3);have hsr1:=src_one w1 n;have HO1:Hid ((w1.alloc (.cells #[.int .i64 n] 3)).ownsRow wr.heap.size 3 1 v1 (0+l.length) ([]++(l.take l.length).map (Value.int .i64))):=ho1';clear ho1 ho1' hg1) | (at_builtin;refine wpList_append_src _ rfl (.tmp 39) (.tmp 41) 168 rfl wr.heap.size 3 iI (.int .i64 0) 1 8 Tryz.underlying168 hiI hzI0 hzI1 hzI2 rfl (by decide) _ _ _ rfl HO1.out _ rfl 1 _ hsr1 (by unfold maxLen;omega) (by omega) (by simp;omega) ?_;intro v2 w2 ho2 hg2;have hB2:Below wr.heap.size wr w2:=(hB1.alloc hs1 _).grown hg2 (by simp;omega) (λj e=>(World.ownsRow.lt HO1.out j e).1);have hs2:=hB2.size;have hsr2:=HAD.out w2 ⟨g,off+l.length,none⟩ (cap-l.length);have HO2:Hid (w2.ownsRow wr.heap.size 3 1 v2 (0+l.length+1) ([]++(l.take l.length).map (Value.int .i64)++[.int .i64 n])):=ho2;clear ho2 hg2 hsr1) | (at_builtin;go_must (refine wpList_append_src _ rfl (.tmp 43) (.tmp 46) 168 rfl wr.heap.size 3 iI (.int .i64 0) 1 8 Tryz.underlying168 hiI hzI0 hzI1 hzI2 rfl (by decide) _ _ _ rfl HO2.out _ rfl 0 [] hsr2 (by unfold maxLen;omega) (by omega) (by omega) ?_);intro v3 w3 ho3 hg3))
      go_ret;refine ⟨v3,rfl,?_,hB2.grown hg3 hs2 (λj e=>(World.ownsRow.lt HO2.out j e).1)⟩;rw [HE.out];refine ints_of_row (base:=wr.heap.size) ?_;have e:(l.take l.length++n::l.drop l.length).length=0+l.length+1+0:=by simp
      rw [e];simpa using ho3
end Go.Proofs.YtfdjchnckjgapaaGreatDoor
namespace Go.Proofs.YtfdjchnckjgapaaGreatDoor
open Go.RowKit S1
set_option linter.unusedVariables false
def pickS (g:Bool->Bool->Bool) (a b:List Rg):List Rg:=pickGo (λx=>g (hasR a x) (hasR b x)) (edgesL (a++b)) []
def orS (a b:List Rg):List Rg:=pickS (λx y=>x||y) a b
def andS (a b:List Rg):List Rg:=pickS (λx y=>x&&y) a b
def lessS (a b:List Rg):List Rg:=pickS (λx y=>x && !y) a b
def notS (a:List Rg):List Rg:=pickS (λx _ => !x) a []
def mkS (a:List Rg):List Rg:=pickS (λx _=>x) a []
def allS:List Rg:=[⟨0,1114111⟩]
def canT (t:Tok):Tok:=⟨t.k,t.p,t.t,mkS t.s⟩
def tkSign (c:Int) (t:Tok):Bool:=t.k==2&&t.t == [c]
def tkWord (s:List Int) (t:Tok):Bool:=t.k==1&&t.t==s
def wSet:List Int:=[115,101,116]
def wBreak:List Int:=[98,114,101,97,107]
def wKeep:List Int:=[107,101,101,112]
def tkRule (t:Tok):Bool:=tkWord wBreak t||tkWord wKeep t
def tkName (t:Tok):Bool:=t.k==1 && !tkWord wSet t && !tkRule t
def tkTells (t:Tok):Bool:=t.k==3||tkName t||tkSign 46 t
def tkPart (t:Tok):Bool:=tkTells t||tkSign 40 t
def hdT:List Tok->Tok
 | []=>⟨4,0,[],[]⟩
 | t::_=>t
def EndsT:List Tok->Prop
 | []=>False
 | [t]=>t.k=4
 | t::u::l=>t.k≠4/\EndsT (u::l)
theorem EndsT.cons {ts:List Tok} (h:EndsT ts) :∃t r,ts=t::r:=by
 match ts,h with
 | t::r,_=>exact ⟨t,r,rfl⟩
theorem EndsT.tail {t:Tok} {r:List Tok} (h:EndsT (t::r)) (hk:t.k≠4):EndsT r:=by
 match r,h with
 | [],h=>exact absurd h hk
 | u::l,h=>exact h.2
theorem EndsT.pos {ts:List Tok} (h:EndsT ts):0<ts.length:=by
 obtain ⟨t,r,rfl⟩:=h.cons;simp
theorem sign_k {c:Int} {t:Tok} (h:tkSign c t=true):t.k=2/\t.t=[c]:=by simpa [tkSign] using h
theorem word_k {s:List Int} {t:Tok} (h:tkWord s t=true):t.k=1/\t.t=s:=by simpa [tkWord] using h
theorem name_k {t:Tok} (h:tkName t=true):t.k=1:=by
 simp only [tkName,Bool.and_eq_true,beq_iff_eq] at h;exact h.1.1
theorem sign_end {c:Int} {t:Tok} (h:tkSign c t=true):t.k≠4:=by rw [(sign_k h).1];decide
theorem rule_end {t:Tok} (h:tkRule t=true):t.k≠4:=by
 simp only [tkRule,Bool.or_eq_true] at h;rcases h with h | h
 · rw [(word_k h).1];decide
 · rw [(word_k h).1];decide
theorem word_end {s:List Int} {t:Tok} (h:tkWord s t=true):t.k≠4:=by rw [(word_k h).1];decide
theorem name_end {t:Tok} (h:tkName t=true):t.k≠4:=by rw [name_k h];decide
abbrev Nms:=List Int->Option (List Rg)
def setM (N:Nms) (t:Tok):Int ⊕ List Rg :=
 if t.k=3 then .inr t.s
 else if tkSign 46 t=true then .inr allS
 else if tkName t=true then (match N t.t with
  | some s => .inr s
  | none => .inl 4)
 else .inl 6
abbrev QR:=(List Tok×Int) ⊕ (List Rg×List Tok)
def opOf (t:Tok):Option (List Rg->List Rg->List Rg) :=
 if tkSign 43 t=true then some orS
 else if tkSign 45 t=true then some lessS
 else if tkSign 38 t=true then some andS
 else none
def sumF (f:List Tok->QR):Nat->List Rg->List Tok->QR
 | 0,acc,ts => .inr (acc,ts)
 | n+1,acc,ts=>match opOf (hdT ts) with
  | none => .inr (acc,ts)
  | some op=>match f ts.tail with
   | .inl e => .inl e
   | .inr (s,r)=>sumF f n (op acc s) r
def sumG (f:List Tok->QR) (ts:List Tok):QR:=match f ts with
 | .inl e => .inl e
 | .inr (s,r)=>sumF f (r.length+1) s r
def endQ (c:Int):QR->QR
 | .inl e => .inl e
 | .inr (s,r)=>if tkSign c (hdT r)=true then .inr (s,r.tail) else .inl (r,6)
def notQ:QR->QR
 | .inl e => .inl e
 | .inr (s,r) => .inr (notS s,r)
def termG (N:Nms) (f:Option (List Tok->QR)) (ts:List Tok):QR :=
 if tkSign 126 (hdT ts)=true then (match f with
  | none => .inl (ts,3)
  | some f=>notQ (f ts.tail))
 else if tkSign 40 (hdT ts)=true then (match f with
  | none => .inl (ts,3)
  | some f=>endQ 41 (sumG f ts.tail))
 else match setM N (hdT ts) with
  | .inl e => .inl (ts,e)
  | .inr s => .inr (s,ts.tail)
def termM (N:Nms):Nat->List Tok->QR
 | 0,ts=>termG N none ts
 | b+1,ts=>termG N (some (termM N b)) ts
def sumM (N:Nms) (b:Nat) (ts:List Tok):QR:=sumG (termM N b) ts
structure Nd where
 k:Int
 s:Int
 kids:List Nd
abbrev Sts:=List (List Rg)
def sameS:List Rg->List Rg->Bool
 | [],[]=>true
 | a::l,b::m=>a.lo==b.lo&&a.hi==b.hi&&sameS l m
 | _,_=>false
theorem sameS_iff:∀ {a b:List Rg},sameS a b=true↔a=b
 | [],[]=>by simp [sameS]
 | [],b::m=>by simp [sameS]
 | a::l,[]=>by simp [sameS]
 | a::l,b::m=>by
  simp only [sameS,Bool.and_eq_true,beq_iff_eq,sameS_iff (a:=l) (b:=m),List.cons.injEq];constructor
  · rintro ⟨⟨h1,h2⟩,h3⟩;refine ⟨?_,h3⟩;cases a;cases b;simp_all
  · rintro ⟨rfl,rfl⟩;exact ⟨⟨rfl,rfl⟩,rfl⟩
def idxS (s:List Rg):Sts->Option Nat
 | []=>none
 | x::l=>if sameS x s=true then some 0 else (idxS s l).map (·+1)
def placeM (st:Sts) (s:List Rg):Option (Nat×Sts):=match idxS s st with
 | some i=>some (i,st)
 | none=>if st.length=60 then none else some (st.length,st++[s])
abbrev NR (α:Type):=(List Tok×Int) ⊕ (α×List Tok×Sts)
def endN (c:Int):NR Nd->NR Nd
 | .inl e => .inl e
 | .inr (n,r,st)=>if tkSign c (hdT r)=true then .inr (n,r.tail,st) else .inl (r,6)
def partM (N:Nms) (f:Option (List Tok->Sts->NR Nd)) (ts:List Tok) (st:Sts):NR Nd :=
 if tkSign 40 (hdT ts)=true then (match f with
  | none => .inl (ts,3)
  | some f=>endN 41 (f ts.tail st))
 else match setM N (hdT ts) with
  | .inl e => .inl (ts,e)
  | .inr s=>match placeM st s with
   | none => .inl (ts,3)
   | some (i,st') => .inr (⟨1,i,[]⟩,ts.tail,st')
def kindT (t:Tok):Int:=if tkSign 42 t=true then 3 else if tkSign 43 t=true then 4 else if tkSign 63 t=true then 5 else 0
def signK (k:Int):Bool:=k==3||k==4||k==5
def cntN:Nat->Nd->Nat
 | 0,_=>0
 | f+1,n=>if signK n.k=true then (match n.kids with
  | []=>1
  | x::_=>cntN f x+1) else 0
def signF:Nat->Nat->Nd->List Tok->Sts->NR Nd
 | 0,_,n,ts,st => .inr (n,ts,st)
 | f+1,c,n,ts,st=>if kindT (hdT ts)=0 then .inr (n,ts,st)
  else if c=3 then .inl (ts,3)
  else signF f (c+1) ⟨kindT (hdT ts),0,[n]⟩ ts.tail st
def signedM (p:List Tok->Sts->NR Nd) (ts:List Tok) (st:Sts):NR Nd:=match p ts st with
 | .inl e => .inl e
 | .inr (n,r,st')=>signF 4 (cntN 4 n) n r st'
def catF (p:List Tok->Sts->NR Nd):Nat->List Nd->List Tok->Sts->NR (List Nd)
 | 0,acc,ts,st => .inr (acc,ts,st)
 | f+1,acc,ts,st=>if tkPart (hdT ts)=true then (match p ts st with
  | .inl e => .inl e
  | .inr (n,r,st')=>catF p f (acc++[n]) r st')
  else .inr (acc,ts,st)
def joinN (k:Int) (l:List Nd):Nd:=match l with
 | [x]=>x
 | l=>⟨k,0,l⟩
def catM (p:List Tok->Sts->NR Nd) (ts:List Tok) (st:Sts):NR Nd:=match catF p (ts.length+1) [] ts st with
 | .inl e => .inl e
 | .inr (l,r,st') => .inr (joinN 0 l,r,st')
def altF (p:List Tok->Sts->NR Nd):Nat->List Nd->List Tok->Sts->NR (List Nd)
 | 0,acc,ts,st => .inr (acc,ts,st)
 | f+1,acc,ts,st=>if tkSign 124 (hdT ts)=true then (match p ts.tail st with
  | .inl e => .inl e
  | .inr (n,r,st')=>altF p f (acc++[n]) r st')
  else .inr (acc,ts,st)
def regexG (p:List Tok->Sts->NR Nd) (ts:List Tok) (st:Sts):NR Nd:=match p ts st with
 | .inl e => .inl e
 | .inr (n,r,st')=>match altF p (r.length+1) [n] r st' with
  | .inl e => .inl e
  | .inr (l,r2,st2) => .inr (joinN 2 l,r2,st2)
def regexM (N:Nms):Nat->List Tok->Sts->NR Nd
 | 0,ts,st=>regexG (catM (signedM (partM N none))) ts st
 | b+1,ts,st=>regexG (catM (signedM (partM N (some (regexM N b))))) ts st
def inner (N:Nms):Nat->Option (List Tok->Sts->NR Nd)
 | 0=>none
 | b+1=>some (regexM N b)
theorem regexM_eq (N:Nms) (b:Nat) (ts:List Tok) (st:Sts):regexM N b ts st=regexG (catM (signedM (partM N (inner N b)))) ts st:=by
 cases b<;>rfl
def innerT (N:Nms):Nat->Option (List Tok->QR)
 | 0=>none
 | b+1=>some (termM N b)
theorem termM_eq (N:Nms) (b:Nat) (ts:List Tok):termM N b ts=termG N (innerT N b) ts:=by
 cases b<;>rfl
structure Rl where
 b:Bool
 l:Nd
 r:Nd
def ruleM (N:Nms) (ts:List Tok) (st:Sts):NR Rl:=match endN 47 (regexM N 20 ts.tail st) with
 | .inl e => .inl e
 | .inr (l,r,st1)=>match endN 59 (regexM N 20 r st1) with
  | .inl e => .inl e
  | .inr (n,r2,st2) => .inr (⟨tkWord wBreak (hdT ts),l,n⟩,r2,st2)
def giveN (N:Nms) (x:List Int) (s:List Rg):Nms:=λy=>if y=x then some s else N y
def nameM (N:Nms) (ts:List Tok):(List Tok×Int) ⊕ (Nms×List Tok) :=
 if tkName (hdT ts)=false then .inl (ts,6)
 else match N (hdT ts).t with
  | some _ => .inl (ts,5)
  | none=>if tkSign 61 (hdT ts.tail)=false then .inl (ts.tail,6)
   else match endQ 59 (sumM N 20 ts.tail.tail) with
    | .inl e => .inl e
    | .inr (s,r) => .inr (giveN N (hdT ts).t s,r)
def textF:Nat->Nms->List Rl->List Tok->Sts->(List Tok×Int) ⊕ (List Rl×Sts)
 | 0,_,rs,_,st => .inr (rs,st)
 | f+1,N,rs,ts,st =>
  if (hdT ts).k=4 then .inr (rs,st)
  else if tkWord wSet (hdT ts)=true then (match nameM N ts.tail with
   | .inl e => .inl e
   | .inr (N',r)=>textF f N' rs r st)
  else if tkRule (hdT ts)=false then .inl (ts,6)
  else if rs.length=64 then .inl (ts,3)
  else match ruleM N ts st with
   | .inl e => .inl e
   | .inr (x,r,st')=>textF f N (rs++[x]) r st'
def parseL:TR->(Nat×Int) ⊕ (List Rl×Sts)
 | .inl e => .inl e
 | .inr l=>match textF (l.length+1) (λ_=>none) [] (l.map canT) [] with
  | .inl (r,e) => .inl ((hdT r).p,e)
  | .inr x => .inr x
end Go.Proofs.YtfdjchnckjgapaaGreatDoor
