/-
  S1RefDecode RMake RfMath Same7 Low7
-/
import Derived.Test.YtfdjchnckjgapaaGreatDoorZ33
import Derived.Test.YtfdjchnckjgapaaGreatDoorZ01
import Derived.Test.YtfdjchnckjgapaaGreatDoorZ24
import Derived.Test.YtfdjchnckjgapaaGreatDoorZ10
import Derived.BigQuiet
import Derived.Test.YtfdjchnckjgapaaGreatDoorZ04
import Derived.Test.YtfdjchnckjgapaaGreatDoorZ05
namespace Go.Proofs.YtfdjchnckjgapaaGreatDoor.S1
set_option maxHeartbeats 2000000
set_option maxRecDepth 100000
open Go.RowKit
set_option linter.unusedVariables false
theorem firstV_unit (b:List Int) (p:Nat):firstV (b.drop p) = .agg #[.int .i64 (unitAt b p).r,.int .i64 0,.int .i64 ((unitAt b p).w:Int),.bool (unitAt b p).bad]:=rfl
theorem first_at (zs:List Int) (hby:Byt zs) (hlen:zs.length<=10000) (p:Nat) (h:p<zs.length) (b off cap len:Nat) (hl:len=zs.length-p) (hcap:len<=cap) (w:World) (hb:b<w.heap.size) (hc:∀j,j<zs.length->w.cell? ⟨b,off+j,none⟩=some (.int .u8 (zs[j]?.getD 0))) :
 Calls Tryz.prog 86 #[.slice (some ⟨b,off+p,none⟩) len cap] w λe w'=>e = .returned (.agg #[.int .i64 (unitAt zs p).r,.int .i64 0,.int .i64 ((unitAt zs p).w:Int),.bool (unitAt zs p).bad])/\Below w.heap.size w w':=by
 have e:len=(zs.drop p).length:=by rw [List.length_drop];exact hl
 rw [<- firstV_unit];refine first_any (zs.drop p) (λc hc=>hby c (List.mem_of_mem_drop hc)) (by rw [List.length_drop];omega) (by rw [List.length_drop];omega) b (off+p) cap len e hcap w hb (λj hj => ?_);rw [List.length_drop] at hj;have:=hc (p+j) (by omega);rw [<- Nat.add_assoc] at this;rw [this,List.getElem?_drop]
theorem heap_new2 (w:World) (o o':Obj):((w.alloc o).alloc o').heap[w.heap.size+1]? = some o':=by
 have:=heap_new' (w.alloc o) o'
 rwa [World.size_alloc] at this
theorem heap_new1 (w:World) (o o':Obj):((w.alloc o).alloc o').heap[w.heap.size]? = some o :=
 (Below.heap_alloc (w.alloc o) o' w.heap.size (by simp)).trans (heap_new' w o)
theorem ownsRow_below {w w':World} {base e size n:Nat} {v:Value} {xs:List Value} (h:w.ownsRow base e size v n xs) (hb:Below w.heap.size w w'):w'.ownsRow base e size v n xs :=
 World.ownsRow.kept (row:=none) h ⟨hb.os,hb.tape,hb.output,hb.size,λk hk _=>hb.block k hk⟩ (by cases v.ownBlock<;>simp)
theorem refDecode_core (zs:List Int) (hby:Byt zs) (hlen:zs.length<=10000) (b off cap:Nat) (hcap:zs.length<=cap) (w:World) (hb:b<w.heap.size) (hc:∀j,j<zs.length->w.cell? ⟨b,off+j,none⟩=some (.int .u8 (zs[j]?.getD 0))) :
 Calls Tryz.prog 39 #[.slice (some ⟨b,off,none⟩) zs.length cap] w λe w'=>∃v us,e = .returned v/\Run zs 0 us zs.length/\w'.ownsRow w.heap.size 83 4 v us.length (cellsUs us)/\Below w.heap.size w w':=by
 obtain ⟨i0,hi,hz0,hz1,hz2⟩:=info_parts Tryz.infoUnit;have HC:Hid (∀j,j<zs.length->w.cell? ⟨b,off+j,none⟩=some (.int .u8 (zs[j]?.getD 0))):=hc;clear hc;go_enter Tryz.func39,Tryz.ntmps39;go_wp2
 go_loopw [3,4] (λv i wr=>∃(us:List U) (p:Nat),Run zs 0 us p/\i = .int .i64 p/\wr.ownsRow w.heap.size 83 4 v us.length (cellsUs us)/\Below w.heap.size w wr) (λ_ i _=>zs.length-(intOf i).toNat)
 case atStart=>exact ⟨[],0,rfl,rfl,World.ownsRow_nil _ _ _ _,Below.refl _ _⟩
 case round =>
  obtain ⟨us,p,hrun,rfl,hrow,hB⟩:=hrel;have hle:=Run.le hrun (Nat.zero_le _);have hbs:=hB.size;by_cases hlt:p<zs.length
  · have hrun':=hrun.snoc hlt;have hwu:=unitAt_w hlt;have HF:Hid (∀len,len=zs.length-p->Calls Tryz.prog 86 #[.slice (some ⟨b,off+p,none⟩) len (cap-p)] wr λe w'=>e = .returned (.agg #[.int .i64 (unitAt zs p).r,.int .i64 0,.int .i64 ((unitAt zs p).w:Int),.bool (unitAt zs p).bad])/\Below wr.heap.size wr w'):=by
     intro len hl;exact first_at zs hby hlen p hlt b off (cap-p) len hl (by omega) wr (by omega) (λj hj=>(hB.cell (p:=⟨b,off+j,none⟩) hb).trans (HC.out j hj))
    obtain ⟨u,hu⟩ :∃u,u=unitAt zs p:=⟨_,rfl⟩;have HUp:Hid (u.p=p):=by rw [hu];rfl
    rw [<- hu] at HF hwu hrun';clear hu;have hul:Hid (∀k,u3.ownBlock=some k->w.heap.size<=k/\k<wr.heap.size):=λk e=>hrow.lt k e
    go_wp2_with (first | (go_at_call 86;refine (HF.out _ (by omega)).mono ?_;rintro e w1 ⟨rfl,hB1⟩;have hrow1:=ownsRow_below hrow hB1;have hs1:=hB1.size) | (at_builtin;refine wpList_append_lies _ rfl _ _ 73 rfl w.heap.size 83 i0 (.agg #[.int .i64 0,.int .i64 0,.int .i64 0,.bool false]) 4 32 Tryz.underlying73 hi hz0 hz1 hz2 rfl (by decide) _ _ _ rfl ((hrow1.alloc _).alloc _) ⟨w1.heap.size+1,0,none⟩ 1 1 [.int .i64 u.r,.int .i64 (p:Int),.int .i64 (u.w:Int),.bool u.bad] rfl rfl (World.news_of_block (heap_new2 _ _ _)) (by simp [Value.oneCell']) (by omega) (by unfold maxLen;omega) (by omega) (by simp;omega) _ rfl ?_;intro g cap2 w2 hown2 hgrow2 hat2 hlt2;have hc2:w2.cell? ⟨w1.heap.size,2,none⟩=some (.int .i64 (u.w:Int)):=(hgrow2.cell_far ⟨w1.heap.size,2,none⟩ (by simp;omega) (λe=>by have:=(hul.out _ e.symm).2;simp at this;omega)).trans (cell_of_row _ _ 2 _ _ _ (heap_new1 _ _ _))))
    have hB2:Below w.heap.size w w2:=(((hB.trans (hB1.mono hbs)).alloc (by omega) _).alloc (by simp;omega) _).grown hgrow2 (by simp;omega) (λk e=>(hul.out k e).1);have hc4:cellsU u=[.int .i64 u.r,.int .i64 (p:Int),.int .i64 (u.w:Int),.bool u.bad]:=by unfold cellsU;rw [HUp.out]
    go_roundw
    case rel=>exact ⟨us++[u],p+u.w,hrun',by go_num,by rw [cellsUs_snoc,hc4];simpa using hown2,hB2⟩
    case measure=>simp [intOf];omega
  · obtain rfl:p=zs.length:=by omega
    go_wp2;go_ret;exact ⟨_,us,rfl,hrun,hrow,hB⟩
end Go.Proofs.YtfdjchnckjgapaaGreatDoor.S1
namespace Go.Proofs.YtfdjchnckjgapaaGreatDoor
set_option maxHeartbeats 4000000
set_option maxRecDepth 100000
open Go.RowKit
set_option linter.unusedVariables false
def RefMakeTells (l:List Rg) (w:World) (e:Ending) (w':World):Prop :=
 ((¬Fits l/\e = .returned (.tuple #[.slice none 0 0,.int .i64 1]))\/(Fits l/\∃s v',Upto (hasR l) s 1114112/\e = .returned (.tuple #[v',.int .i64 0])/\w'.ownsRow w.heap.size 94 2 v' s.length (cellsRs s)))/\Below w.heap.size w w'
theorem refMake_any (l:List Rg) (v:Value) (w:World) (hlen:l.length<=20000) (hv:RngSrc w v l) :
 Calls Tryz.prog 67 #[v] w λe w'=>RefMakeTells l w e w':=by
 have HV:Hid (RngSrc w v l):=hv;obtain ⟨a,cap,rfl,hc,hcell⟩:=hv.1;have HA:Hid (∀i,(h:i<l.length)->∃g off,a=some ⟨g,off,none⟩/\g<w.heap.size/\w.cell? ⟨g,off+i*2,none⟩=some (.int .i64 l[i].lo)/\w.cell? ⟨g,off+i*2+1,none⟩=some (.int .i64 l[i].hi)):=hcell;clear hcell hv;go_enter Tryz.func67,Tryz.ntmps67;go_wp2
 go_loopw [4] (λx wr=>∃k:Nat,k<=l.length/\x = .int .i64 k/\(∀i,(h:i<l.length)->i<k->0<=l[i].lo/\l[i].lo<=l[i].hi/\l[i].hi<=1114111)/\∃nd,wr=w.drewN nd) (λx _=>l.length-(intOf x).toNat)
 case atStart=>exact ⟨0,Nat.zero_le _,rfl,λi h q=>by omega,0,rfl⟩
 case round =>
  obtain ⟨k,hk,rfl,hok,nd,rfl⟩:=hrel;have HOK:Hid (∀i,(h:i<l.length)->i<k->0<=l[i].lo/\l[i].lo<=l[i].hi/\l[i].hi<=1114111):=hok;clear hok;by_cases hlt:k<l.length
  · obtain ⟨g,off,rfl,hg,c0,c1⟩:=HA.out k hlt;obtain ⟨r,hr⟩ :∃r,r=l[k]:=⟨_,rfl⟩;rw [<- hr] at c0 c1;have HR:Hid (r=l[k]):=hr;clear hr;have HNF:Hid (¬(0<=r.lo/\r.lo<=r.hi/\r.hi<=1114111)->¬Fits l):=λq f=>q (f r (by rw [HR.out];exact List.getElem_mem hlt) |> λz=>⟨z.1,z.2.1,z.2.2⟩);have hk1:(k:Int)<(l.length:Int):=by omega
    by_cases q0:r.lo<0
    · have HN:Hid (¬Fits l):=HNF.out (by omega);go_wp2
      go_quiet (fail)
      go_wp2
      go_ret2
      exact ⟨.inl ⟨HN.out,rfl⟩,below_drewN' (below_drewN' (Below.refl _ _) nd) nq⟩
    · have q0':decide (r.lo<0)=false:=by simpa using q0
      by_cases q1:1114111<r.hi
      · have HN:Hid (¬Fits l):=HNF.out (by omega);go_wp2
        go_quiet (fail)
        go_wp2
        go_ret2
        exact ⟨.inl ⟨HN.out,rfl⟩,below_drewN' (below_drewN' (Below.refl _ _) nd) nq⟩
      · have q1':decide (1114111<r.hi)=false:=by simpa using q1
        by_cases q2:r.hi<r.lo
        · have HN:Hid (¬Fits l):=HNF.out (by omega);go_wp2
          go_quiet (fail)
          go_wp2
          go_ret2
          exact ⟨.inl ⟨HN.out,rfl⟩,below_drewN' (below_drewN' (Below.refl _ _) nd) nq⟩
        · have q2':decide (r.hi<r.lo)=false:=by simpa using q2
          have HO2:Hid (∀i,(h:i<l.length)->i<k+1->0<=l[i].lo/\l[i].lo<=l[i].hi/\l[i].hi<=1114111):=λi h q=>by
           by_cases e:i=k
           · subst e;rw [<- HR.out];omega
           · exact HOK.out i h (by omega)
          go_wp2
          go_quiet (fail)
          go_wp2
          go_roundw
          case rel=>exact ⟨k+1,by omega,by go_num,HO2.out,_,rfl⟩
          case measure=>simp [intOf];omega
  · obtain rfl:k=l.length:=by omega
    have HF:Hid (Fits l):=λr hr=>by
     obtain ⟨i,hi,rfl⟩:=List.getElem_of_mem hr;exact HOK.out i hi hi
    have hB:Below w.heap.size w (w.drewN nd):=below_drewN' (Below.refl _ _) _;have HP:=pick_any 0 (λx y=>x||y) (.inl ⟨rfl,rfl⟩) l [] (by omega) (by simp) HF.out (λr hr=>by cases hr) _ _ (w.drewN nd) (HV.out.below hB) (RngSrc.nil _);clear HOK HV HA
    go_wp2_with fail
    refine HP.mono ?_;rintro e w1 ⟨s,v1,rfl,hu,ho,hB1⟩;have HO:Hid (w1.ownsRow w.heap.size 94 2 v1 s.length (cellsRs s)):=ho;have HU:Hid (Upto (hasR l) s 1114112):=hu.congr (λx _ _=>by simp [show hasR [] x=false from rfl]);have hB2:Below w.heap.size w w1:=hB.trans hB1;clear HP hu ho;go_wp2
    go_ret2
    exact ⟨.inr ⟨HF.out,s,v1,HU.out,rfl,HO.out⟩,hB2⟩
end Go.Proofs.YtfdjchnckjgapaaGreatDoor
namespace Go.Proofs.YtfdjchnckjgapaaGreatDoor
open Go.RowKit S1
set_option linter.unusedVariables false
def Okay (us:List U):Prop:=∀u∈us,(u.bad=true->u.r=65533)/\0<=u.r/\u.r<=1114111
theorem Okay.of_run {zs:List Int} {us:List U} {p q:Nat} (h:Run zs p us q):Okay us:=λu hu=>⟨run_bad h u hu,run_range h u hu⟩
theorem fit_eq {u:U} (h:u.bad=true->u.r=65533) {p:Int->Bool} (hp:p 65533=false):fitU p u=p u.r:=by
 unfold fitU;cases hb:u.bad with
 | true=>rw [h hb,hp];rfl
 | false=>simp
def figI (r:Int):Int:=if figR r=true then figV r else -1
theorem figI_yes {r:Int} (h:figR r=true):figI r=figV r/\0<=figV r/\figV r<=15:=by
 refine ⟨by unfold figI;rw [if_pos h],?_⟩;simp [figR,decB] at h;unfold figV
 split<;>omega
theorem figI_no {r:Int} (h:figR r=false):figI r=-1:=by unfold figI;rw [if_neg (by rw [h];simp)]
def numS (m:Nat) (n:Int) (vs:List U):Option Int×List U :=
 if (figsL (6-m) vs).isEmpty=true/\m=0 then (none,vs)
 else match sgn (isC 125) (figsD (6-m) vs) with
  | (some _,r)=>(some ((figsL (6-m) vs).foldl (λn c=>n*16+figV c) n),r)
  | (none,r)=>(none,r)
theorem numS_zero (us:List U):numS 0 0 us=numL us:=by
 unfold numS numL;by_cases h:(figsL 6 us).isEmpty=true
 · rw [if_pos ⟨h,rfl⟩,if_pos h]
 · rw [if_neg (λq=>h q.1),if_neg h];rfl
theorem numS_step {m:Nat} (hm:m<6) (n:Int) {u:U} {t:List U} (hu:fitU figR u=true):numS m n (u::t)=numS (m+1) (n*16+figV u.r) t:=by
 obtain ⟨k,hk⟩ :∃k,6-m=k+1:=⟨5-m,by omega⟩;have hk2:6-(m+1)=k:=by omega
 unfold numS;rw [hk,hk2];have e1:figsL (k+1) (u::t)=u.r::figsL k t:=by show (if fitU figR u=true then _ else _)=_;rw [if_pos hu]
 have e2:figsD (k+1) (u::t)=figsD k t:=by show (if fitU figR u=true then _ else _)=_;rw [if_pos hu]
 rw [e1,e2,if_neg (by simp),if_neg (by omega)];rfl
theorem numS_nil (m:Nat) (n:Int):numS m n []=(none,[]):=by
 unfold numS;have e1:figsL (6-m) []=[]:=by cases 6-m<;>rfl
 have e2:figsD (6-m) []=[]:=by cases 6-m<;>rfl
 rw [e1,e2]
 split
 · rfl
 · rfl
theorem figs_stop {m:Nat} {u:U} {t:List U} (h:fitU figR u=false\/6<=m):figsL (6-m) (u::t)=[]/\figsD (6-m) (u::t)=u::t:=by
 rcases h with h | h
 · cases 6-m with
   | zero=>exact ⟨rfl,rfl⟩
   | succ k =>
    constructor
    · show (if fitU figR u=true then _ else _)=_;rw [if_neg (by rw [h];simp)]
    · show (if fitU figR u=true then _ else _)=_;rw [if_neg (by rw [h];simp)]
 · rw [show 6-m=0 by omega];exact ⟨rfl,rfl⟩
theorem numS_end {m:Nat} {n:Int} {u:U} {t:List U} (h:fitU figR u=false\/6<=m) (h0:0<m) (hu:fitU (isC 125) u=true):numS m n (u::t)=(some n,t):=by
 obtain ⟨e1,e2⟩:=figs_stop (t:=t) h;unfold numS;rw [e1,e2,if_neg (by omega),sgn_cons,if_pos hu];rfl
theorem numS_stuck {m:Nat} {n:Int} {u:U} {t:List U} (h:fitU figR u=false\/6<=m) (hu:m=0\/fitU (isC 125) u=false):numS m n (u::t)=(none,u::t):=by
 obtain ⟨e1,e2⟩:=figs_stop (t:=t) h;unfold numS;rw [e1,e2];by_cases h0:m=0
 · rw [if_pos ⟨rfl,h0⟩]
 · rw [if_neg (λq=>h0 q.2),sgn_cons,if_neg (by rcases hu with q | q<;>first | omega | (rw [q];simp))]
def litE (n:Nat) (x:Option Int×List U):Value:=match x.1 with
 | some v => .tuple #[.int .i64 v,.int .i64 ((n-x.2.length:Nat):Int),.int .i64 0]
 | none => .tuple #[.int .i64 0,.int .i64 ((n-x.2.length:Nat):Int),.int .i64 (stuckE x.2)]
theorem litE_some {n j:Nat} {x:Int} {r:List U} (h:n-r.length=j):litE n (some x,r) = .tuple #[.int .i64 x,.int .i64 (j:Int),.int .i64 0]:=by unfold litE;rw [h]
theorem litE_none {n j:Nat} {r:List U} (h:n-r.length=j):litE n (none,r) = .tuple #[.int .i64 0,.int .i64 (j:Int),.int .i64 (stuckE r)]:=by unfold litE;rw [h]
theorem drop_len {us:List U} {k:Nat} (h:k<=us.length):us.length-(us.drop k).length=k:=by rw [List.length_drop];omega
theorem suffix_drop {us r:List U} {k:Nat} (h:r <:+ us.drop k):us.drop (us.length-r.length)=r/\(k<=us.length->k<=us.length-r.length)/\us.length-r.length<=us.length:=by
 have h2:r <:+ us:=h.trans (List.drop_suffix k us);obtain ⟨a,ha⟩:=h2;have hl:=h.length_le;rw [List.length_drop] at hl;refine ⟨?_,λhk=>by omega,by omega⟩;rw [<- ha];have:(a++r).length-r.length=a.length:=by rw [List.length_append];omega
 rw [this,List.drop_left]
end Go.Proofs.YtfdjchnckjgapaaGreatDoor
namespace Go.Proofs.YtfdjchnckjgapaaGreatDoor
open Go.RowKit Go.Shelf S1
set_option linter.unusedVariables false
theorem refLower_any (r:Int) (w:World):Calls Tryz.prog 41 #[.int .i64 r] w λe w'=>e = .returned (.bool (nameB r))/\w'=w:=by
 by_cases h1:97<=r
 · have e:nameB r=decide (r<=122):=by simp [nameB,h1]
   rw [e];go_enter Tryz.func41,Tryz.ntmps41;go_wp2;go_ret;exact ⟨rfl,rfl⟩
 · have e:nameB r=false:=by simp [nameB,h1]
   rw [e];have h1':decide (97<=r)=false:=by simpa using h1
   go_enter Tryz.func41,Tryz.ntmps41;go_wp2;go_ret;exact ⟨rfl,rfl⟩
theorem refGoes_any (r:Int) (w:World):Calls Tryz.prog 42 #[.int .i64 r] w λe w'=>e = .returned (.bool (nameR r))/\w'=w:=by
 have c1:=refLower_any r w;cases h1:nameB r with
 | true =>
  have e:nameR r=true:=by simp [nameR,h1]
  rw [e];rw [h1] at c1;go_enter Tryz.func42,Tryz.ntmps42
  go_wp2_with (go_at_call 41;refine c1.mono ?_;rintro e w' ⟨rfl,rfl⟩)
  go_ret;exact ⟨rfl,rfl⟩
 | false =>
  rw [h1] at c1;by_cases h2:48<=r
  · by_cases h3:r<=57
    · have e:nameR r=true:=by simp [nameR,decB,h2,h3]
      rw [e];go_enter Tryz.func42,Tryz.ntmps42
      go_wp2_with (go_at_call 41;refine c1.mono ?_;rintro e w' ⟨rfl,rfl⟩)
      go_ret;exact ⟨rfl,rfl⟩
    · have e:nameR r=(r==95):=by simp [nameR,decB,h1,h2,h3]
      rw [e];have h3':decide (r<=57)=false:=by simpa using h3
      go_enter Tryz.func42,Tryz.ntmps42
      go_wp2_with (go_at_call 41;refine c1.mono ?_;rintro e w' ⟨rfl,rfl⟩)
      go_ret;exact ⟨rfl,rfl⟩
  · have e:nameR r=(r==95):=by simp [nameR,decB,h1,h2]
    rw [e];have h2':decide (48<=r)=false:=by simpa using h2
    go_enter Tryz.func42,Tryz.ntmps42
    go_wp2_with (go_at_call 41;refine c1.mono ?_;rintro e w' ⟨rfl,rfl⟩)
    go_ret;exact ⟨rfl,rfl⟩
end Go.Proofs.YtfdjchnckjgapaaGreatDoor
