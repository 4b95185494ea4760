/-
  Sorter Sort Make LxMath
-/
import Derived.Shelf.SlSortCmp.WholeK
import Derived.Test.YtfdjchnckjgapaaGreatDoorProg
import Derived.Test.YtfdjchnckjgapaaGreatDoorZ03
import Derived.Shelf.SlSortCmp.NoneTotal
import Derived.Lib.SliceRun
import Derived.Test.YtfdjchnckjgapaaGreatDoorZ00
import Derived.Test.YtfdjchnckjgapaaGreatDoorZ02
namespace Go.Proofs.YtfdjchnckjgapaaGreatDoor
open Go.Shelf
def sortR_ren:Go.Shelf.Ren:=⟨fun | 6=>100 | 15=>134 | 14=>133 | 28=>171 | 29=>172 | 20=>163 | 21=>164 | 22=>165 | 23=>166 | 24=>167 | 25=>168 | 26=>169 | 27=>170 | 46=>196 | 47=>197 | 48=>198 | 49=>199 | 50=>200 | 57=>219 | n=>n,fun | 22=>43 | 24=>94 | 25=>139 | 3=>3 | 39=>166 | 0=>0 | 53=>201 | 55=>188 | 4=>4 | 46=>195 | 45=>194 | 50=>146 | 5=>5 | 9=>9 | 66=>213 | 70=>217 | 76=>232 | 77=>144 | n=>n,fun | n=>n⟩
theorem sortR:Go.Proofs.SlLaysF0.n6 Tryz.prog sortR_ren:={
 mixed:=by kernel_rfl
 f6:=⟨Tryz.f100.name,by decide,Tryz.func100.trans (congrArg some (by kernel_rfl))⟩
 f14:=⟨Tryz.f133.name,by decide,Tryz.func133.trans (congrArg some (by kernel_rfl))⟩
 f15:=Tryz.func134.trans (congrArg some (by kernel_rfl))
 f20:=⟨Tryz.f163.name,by decide,Tryz.func163.trans (congrArg some (by kernel_rfl))⟩
 f21:=⟨Tryz.f164.name,by decide,Tryz.func164.trans (congrArg some (by kernel_rfl))⟩
 f22:=⟨Tryz.f165.name,by decide,Tryz.func165.trans (congrArg some (by kernel_rfl))⟩
 f23:=⟨Tryz.f166.name,by decide,Tryz.func166.trans (congrArg some (by kernel_rfl))⟩
 f24:=⟨Tryz.f167.name,by decide,Tryz.func167.trans (congrArg some (by kernel_rfl))⟩
 f25:=⟨Tryz.f168.name,by decide,Tryz.func168.trans (congrArg some (by kernel_rfl))⟩
 f26:=⟨Tryz.f169.name,by decide,Tryz.func169.trans (congrArg some (by kernel_rfl))⟩
 f27:=⟨Tryz.f170.name,by decide,Tryz.func170.trans (congrArg some (by kernel_rfl))⟩
 f28:=Tryz.func171.trans (congrArg some (by kernel_rfl))
 f29:=Tryz.func172.trans (congrArg some (by kernel_rfl))
 f46:=⟨Tryz.f196.name,by decide,Tryz.func196.trans (congrArg some (by kernel_rfl))⟩
 f47:=Tryz.func197.trans (congrArg some (by kernel_rfl))
 f48:=Tryz.func198.trans (congrArg some (by kernel_rfl))
 f49:=⟨Tryz.f199.name,by decide,Tryz.func199.trans (congrArg some (by kernel_rfl))⟩
 f50:=⟨Tryz.f200.name,by decide,Tryz.func200.trans (congrArg some (by kernel_rfl))⟩
 f57:=⟨Tryz.f219.name,by decide,Tryz.func219.trans (congrArg some (by kernel_rfl))⟩
 t0:=Tryz.underlying0
 a0:=Tryz.isAgg0
 z0:=Tryz.sizeOf0
 v0:=Tryz.zeroValue0
 t3:=Tryz.underlying3
 a3:=Tryz.isAgg3
 z3:=Tryz.sizeOf3
 v3:=Tryz.zeroValue3
 t4:=Tryz.underlying4
 a4:=Tryz.isAgg4
 z4:=Tryz.sizeOf4
 v4:=Tryz.zeroValue4
 t5:=Tryz.underlying5
 a5:=Tryz.isAgg5
 z5:=Tryz.sizeOf5
 v5:=Tryz.zeroValue5
 t9:=Tryz.underlying9
 a9:=Tryz.isAgg9
 z9:=Tryz.sizeOf9
 v9:=Tryz.zeroValue9
 t22:=Tryz.underlying43
 a22:=Tryz.isAgg43
 z22:=Tryz.sizeOf43
 v22:=Tryz.zeroValue43
 t25:=Tryz.underlying139
 a25:=Tryz.isAgg139
 z25:=Tryz.sizeOf139
 v25:=Tryz.zeroValue139
 t39:=Tryz.underlying166
 a39:=Tryz.isAgg166
 z39:=Tryz.sizeOf166
 v39:=Tryz.zeroValue166
 t45:=Tryz.underlying194
 a45:=Tryz.isAgg194
 z45:=Tryz.sizeOf194
 v45:=Tryz.zeroValue194
 t46:=Tryz.underlying195
 a46:=Tryz.isAgg195
 z46:=Tryz.sizeOf195
 v46:=Tryz.zeroValue195
 t50:=Tryz.underlying146
 a50:=Tryz.isAgg146
 z50:=Tryz.sizeOf146
 v50:=Tryz.zeroValue146
 t53:=Tryz.underlying201
 a53:=Tryz.isAgg201
 z53:=Tryz.sizeOf201
 v53:=Tryz.zeroValue201
 t55:=Tryz.underlying188
 a55:=Tryz.isAgg188
 z55:=Tryz.sizeOf188
 v55:=Tryz.zeroValue188
 t66:=Tryz.underlying213
 a66:=Tryz.isAgg213
 z66:=Tryz.sizeOf213
 v66:=Tryz.zeroValue213
 t70:=Tryz.underlying217
 a70:=Tryz.isAgg217
 z70:=Tryz.sizeOf217
 v70:=Tryz.zeroValue217
 t76:=Tryz.underlying232
 a76:=Tryz.isAgg232
 z76:=Tryz.sizeOf232
 v76:=Tryz.zeroValue232
 t77:=Tryz.underlying144
 a77:=Tryz.isAgg144
 z77:=Tryz.sizeOf144
 v77:=Tryz.zeroValue144 }
end Go.Proofs.YtfdjchnckjgapaaGreatDoor
namespace Go.Proofs.YtfdjchnckjgapaaGreatDoor
set_option maxHeartbeats 2000000
open Go.RowKit Go.Shelf Go.Lib Go.Sort
set_option linter.unusedVariables false
def cmpI (x y:Int):Int:=if x<y then -1 else if y<x then 1 else 0
theorem cmpI_neg (x y:Int):cmpI x y<0↔x<y:=by
 unfold cmpI
 repeat' split
 all_goals omega
def cmpR (x y:Rg):Int:=cmpI x.lo y.lo
theorem ltOf_cmpR (x y:Rg):ltOf cmpR x y=decide (x.lo<y.lo):=by
 unfold ltOf cmpR;exact decide_eq_decide.2 (cmpI_neg _ _)
theorem swoR:SWO (ltOf cmpR) where
 irrefl x:=by rw [ltOf_cmpR];simp
 trans x y z h1 h2:=by rw [ltOf_cmpR] at *;simp at *;omega
 ntrans x y z h1 h2:=by rw [ltOf_cmpR] at *;simp at *;omega
theorem isNaN_any (x:Int) (w:World):Calls Tryz.prog 135 #[.int .i64 x] w λe w'=>e = .returned (.bool false)/\w'=w:=by
 have h:(x != x)=false:=by simp
 go_enter Tryz.func135,Tryz.ntmps135;go_wp2;go_ret;exact ⟨rfl,rfl⟩
theorem compare_any (x y:Int) (w:World):Calls Tryz.prog 102 #[.int .i64 x,.int .i64 y] w λe w'=>e = .returned (.int .i64 (cmpI x y))/\w'=w:=by
 by_cases h1:x<y
 · have e:cmpI x y=-1:=by simp [cmpI,h1]
   rw [e];go_enter Tryz.func102,Tryz.ntmps102
   go_wp2_with (go_at_call 135;refine (isNaN_any _ _).mono ?_;rintro e w' ⟨rfl,rfl⟩)
   go_ret;exact ⟨rfl,rfl⟩
 by_cases h2:y<x
 · have e:cmpI x y=1:=by simp [cmpI,h1,h2]
   rw [e];go_enter Tryz.func102,Tryz.ntmps102
   go_wp2_with (go_at_call 135;refine (isNaN_any _ _).mono ?_;rintro e w' ⟨rfl,rfl⟩)
   go_ret;exact ⟨rfl,rfl⟩
 · have e:cmpI x y=0:=by simp [cmpI,h1,h2]
   rw [e];go_enter Tryz.func102,Tryz.ntmps102
   go_wp2_with (go_at_call 135;refine (isNaN_any _ _).mono ?_;rintro e w' ⟨rfl,rfl⟩)
   go_ret;exact ⟨rfl,rfl⟩
theorem make1_any (x y:Rg) (w:World):Calls Tryz.prog 101 #[.agg #[.int .i64 x.lo,.int .i64 x.hi],.agg #[.int .i64 y.lo,.int .i64 y.hi]] w λe w'=>e = .returned (.int .i64 (cmpR x y))/\∃q os',w'=grow (w.drewN q) os':=by
 have hcon:=λW=>compare_any x.lo y.lo W;have e0:cmpI x.lo y.lo=cmpR x y:=rfl;rw [e0] at hcon
 generalize cmpR x y=r at hcon ⊢
 go_enter Tryz.func101,Tryz.ntmps101
 go_wp2_with (go_at_call 102;refine (hcon _).mono ?_;rintro e w' ⟨rfl,rfl⟩)
 go_ret;exact ⟨rfl,0,_,by rw [alloc_eq_grow,alloc_eq_grow,grow_grow];rfl⟩
theorem below_sorted [Inhabited Rg] {w:World} {base g n:Nat} {d:Array Rg} {os:Array Obj} (hb:base<=g) (hs:base<=w.heap.size):Below base w (sortWorldK cellsR 2 w g 0 n d os):=by
 refine ⟨rfl,rfl,rfl,?_,λk hk => ?_⟩
 · unfold sortWorldK;rw [size_grow,size_putRowK];show w.heap.size<=w.heap.size+_;omega
 · have h1:(putRowK cellsR 2 (Sort.ahead w n) g 0 d).heap[k]? = w.heap[k]? := by
    unfold putRowK putRow mapBlock;show (w.heap.modify g _)[k]? = _;rw [Array.getElem?_modify,if_neg (by omega)]
   rw [<- h1];unfold sortWorldK grow;have hk2:k<(putRowK cellsR 2 (Sort.ahead w n) g 0 d).heap.size:=by
    rw [size_putRowK];show k<w.heap.size;omega
   exact Array.getElem?_append_left hk2
theorem holds_of_own [Inhabited Rg] {w:World} {base g cap:Nat} {l:List Rg} (h:w.ownsRow base 94 2 (.slice (some ⟨g,0,none⟩) l.length cap) l.length (cellsRs l)):HoldsK cellsR 2 w g 0 l.toArray:=by
 intro j hj;rw [size_flatK] at hj;have hj':j<l.length*2:=by simpa using hj
 have hlt:j / 2<l.length:=by omega
 refine ⟨?_,own_frozen h _⟩;rw [get_flatK _ _ _ _ hj];have hx:=cellsRs_at l (j / 2) (j % 2) hlt (by omega);have e:j / 2*2+j % 2=j:=by omega
 rw [e] at hx;have e2:l.toArray[j / 2]! = l[j / 2]:=by simp [hlt]
 rw [e2];have hy:(cellsR l[j / 2])[j % 2]? = some (cellsR l[j / 2])[j % 2]! := by
  have:j % 2<(cellsR l[j / 2]).length:=by simp [cellsR];omega
  rw [getElem!_pos (cellsR l[j / 2]) (j % 2) this,List.getElem?_eq_getElem this]
 rw [hy] at hx;have:=h.cells (g:=g) rfl j _ hx;rw [add_lit'] at this;exact this
def Ordered (l s:List Rg):Prop:=s.length=l.length/\(∀r,r∈s↔r∈l)/\∀i j,i<j->(hi:i<s.length)->(hj:j<s.length)->s[i].lo<=s[j].lo
theorem rng_of_holds [Inhabited Rg] {w:World} {g cap:Nat} {s:List Rg} (h:HoldsK cellsR 2 w g 0 s.toArray) (hc:s.length<=cap) (hg:g<w.heap.size):RngIn w (.slice (some ⟨g,0,none⟩) s.length cap) s:=by
 refine ⟨_,cap,rfl,hc,λi hi=>⟨g,0,rfl,hg,?_,?_⟩⟩
 · have:=(HoldsK.cell h (i:=i) (c:=0) (by simpa using hi) (by omega)).1;have e2:s.toArray[i]! = s[i]:=by simp [hi]
   rw [e2] at this;simpa [cellsR] using this
 · have:=(HoldsK.cell h (i:=i) (c:=1) (by simpa using hi) (by omega)).1;have e2:s.toArray[i]! = s[i]:=by simp [hi]
   rw [e2] at this;simpa [cellsR] using this
theorem sort_any (base:Nat) (l:List Rg) (v:Value) (w:World) (hlen:l.length<4611686018427387904) (hbase:base<=w.heap.size) (hown:w.ownsRow base 94 2 v l.length (cellsRs l)) :
 Calls Tryz.prog 100 #[v,.func (.func 101) #[] #[]] w λe w'=>e = .returned (.tuple #[])/\∃s,Ordered l s/\RngIn w' v s/\Below base w w':=by
 haveI:Inhabited Rg:=⟨⟨0,0⟩⟩;rcases hown.2 with ⟨rfl,h0⟩ | ⟨g,cap,cur,rfl,hb,hg,hc,hm,hs,ht⟩
 · have e:l=[]:=List.length_eq_zero_iff.1 h0;subst e;refine (AnyF.slices_SortFunc_none sortR none 0 (.func (.func 101) #[] #[]) w).mono ?_;rintro e w' ⟨rfl,rfl⟩;exact ⟨rfl,[],⟨rfl,λr=>Iff.rfl,λi j hij hi=>by cases hi⟩,RngAt.nil _ _,Below.refl _ _⟩
 · have eg:∀args w,(callFunc 101 args).run Tryz.prog w = .ok (.enter 101 args) w:=enters_of Tryz.func101 (by kernel_rfl) rfl;have hgl:g<w.heap.size:=(Array.getElem?_eq_some_iff.1 hg).1;have hH:=holds_of_own hown;have hcon:=AnyQ.slices_SortFunc sortR 2 Tryz.isAgg94 Tryz.sizeOf94 cellsR (λ_=>rfl) (λx u hu=>by simp [cellsR] at hu;rcases hu with rfl | rfl<;>rfl) cmpR swoR 101 #[] g 0 cap l.toArray w eg (λ_ _ _ _ x y=>make1_any x y _) hH hgl (by simpa using hlen);have e1:l.toArray.size=l.length:=by simp
   rw [e1] at hcon;refine Calls.mono hcon ?_;rintro e w' ⟨rfl,d',n,os,hp,hso,hw⟩;have hd:d'.size=l.length:=by rw [hp.1];simp
   have hperm:d'.toList.Perm l:=by
    have:=hp.2.2;have a1:d'.extract 0 l.length=d':=by rw [<- hd];simp
    have a2:l.toArray.extract 0 l.length=l.toArray:=by simp
    rw [a1,a2] at this;exact this
   refine ⟨rfl,d'.toList,⟨by simpa using hd,λr=>hperm.mem_iff,λi j hij hi hj => ?_⟩,?_,by rw [hw];exact below_sorted hb hbase⟩
   · have hi':i<d'.size:=by simpa using hi
     have hj':j<d'.size:=by simpa using hj
     have:=hso i j (Nat.zero_le _) hij (by omega);rw [ltOf_cmpR,getElem!_pos d' i hi',getElem!_pos d' j hj'] at this;have:=of_decide_eq_false this;simp only [Array.getElem_toList];omega
   · have hh:HoldsK cellsR 2 w' g 0 d':=SWK.holds (w0:=w) ⟨n,os,hw⟩ hgl hH (by simpa using hd);have hle:w.heap.size<=w'.heap.size:=by
      have:=SWK.le (w0:=w) (enc:=cellsR) (k:=2) (blk:=g) (off:=0) (dk:=d') ⟨n,os,hw⟩;exact this
     have:=rng_of_holds (w:=w') (g:=g) (cap:=cap) (s:=d'.toList) (by simpa using hh) (by simpa [hd] using hc) (by omega);have e3:d'.toList.length=l.length:=by simpa using hd
     rw [e3] at this;exact this
theorem clone_any (l:List Rg) (v:Value) (w:World) (hbig:l.length*16<=140737488355328) (hv:RngIn w v l) :
 Calls Tryz.prog 99 #[v] w λe w'=>∃v',e = .returned v'/\w'.ownsRow w.heap.size 94 2 v' l.length (cellsRs l)/\Below w.heap.size w w':=by
 obtain ⟨i0,hi,hz0,hz1,hz2⟩:=info_parts Tryz.infoRange;have q22:∀(w:World) (a:Option Addr) (n c n' c':Nat),(binOp .eql 43 (.slice a n c) (.slice none n' c')).run Tryz.prog w = .ok (.bool a.isNone) w:=λw a n c n' c'=>Lib.run_eql_slice_nil w _ _ a n c n' c' Tryz.underlying43;obtain ⟨a,cap,rfl,hc,hcell⟩:=hv;cases a with
 | none =>
  have h0:l=[]:=by
   cases l with
   | nil=>rfl
   | cons r t =>
    obtain ⟨g,off,e,_⟩:=hcell 0 (by simp);cases e
  subst h0;go_enter Tryz.func99,Tryz.ntmps99;go_wp2;go_ret;exact ⟨_,rfl,World.ownsRow_nil _ _ _ _,Below.refl _ _⟩
 | some ad =>
  have HO:Hid ((w.alloc (.cells #[] 94)).ownsRow w.heap.size 94 2 (.slice (some ⟨w.heap.size,0,none⟩) 0 0) 0 []):=World.ownsRow_made w #[] 0 (Nat.le_refl _) (Nat.zero_le _) (by simp);have HC:Hid (∀j u,(cellsRs l)[j]? = some u->(w.alloc (.cells #[] 94)).cell? (ad.add j)=some u):=by
   intro j u hj;have hjl:j<l.length*2:=by
    rw [<- cellsRs_length];exact (List.getElem?_eq_some_iff.1 hj).1
   have hlt:j / 2<l.length:=by omega
   obtain ⟨g,off,e,hg,c0,c1⟩:=hcell (j / 2) hlt;obtain rfl:ad=⟨g,off,none⟩:=by simpa using e
   have hx:=cellsRs_at l (j / 2) (j % 2) hlt (by omega);have e1:j / 2*2+j % 2=j:=by omega
   rw [e1,hj] at hx;have e2:(⟨g,off,none⟩:Addr).add j=⟨g,off+j,none⟩:=by unfold Addr.add;split<;>simp_all
   rw [e2,World.cell?_of_block (a:=⟨g,off+j,none⟩) (Below.heap_alloc w _ g hg)];rcases Nat.mod_two_eq_zero_or_one j with q | q
   · rw [q] at hx;have:off+j / 2*2=off+j:=by omega
     rw [this] at c0;rw [c0];simpa [cellsR] using hx.symm
   · rw [q] at hx;have:off+j / 2*2+1=off+j:=by omega
     rw [this] at c1;rw [c1];simpa [cellsR] using hx.symm
  have HL:Hid ((cellsRs l).length=l.length*2):=cellsRs_length l;have H1:Hid (∀u∈cellsRs l,u.oneCell'=true):=cellsRs_one l;have hmax:l.length<=maxLen:=by unfold maxLen;omega
  clear hcell;go_enter Tryz.func99,Tryz.ntmps99
  go_wp2_with (at_builtin;go_must (refine wpList_append_own _ rfl (.tmp 5) (.tmp 6) 43 rfl w.heap.size 94 i0 (.agg #[.int .i64 0,.int .i64 0]) 2 16 Tryz.underlying43 hi hz0 hz1 hz2 rfl (by decide) _ _ _ rfl HO.out ad l.length cap (cellsRs l) rfl HL.out HC.out H1.out (by rw [Nat.zero_add];exact hmax) (by rw [Nat.zero_add];exact hbig) (by simp) ?_);intro v' w1 hown' hgrow hnil)
  go_ret;refine ⟨v',rfl,by simpa using hown',((Below.refl _ w).alloc (Nat.le_refl _) _).grown hgrow (by simp) (λj e=>(World.ownsRow.lt HO.out j e).1)⟩
end Go.Proofs.YtfdjchnckjgapaaGreatDoor
namespace Go.Proofs.YtfdjchnckjgapaaGreatDoor
set_option maxHeartbeats 4000000
set_option maxRecDepth 100000
open Go.RowKit
set_option linter.unusedVariables false
theorem own_mono {w:World} {b c e size n:Nat} {v:Value} {xs:List Value} (h:w.ownsRow b e size v n xs) (hc:c<=b):w.ownsRow c e size v n xs:=by
 refine ⟨h.1,?_⟩;rcases h.2 with q | ⟨g,cap,cur,rfl,hb,r⟩
 · exact .inl q
 · exact .inr ⟨g,cap,cur,rfl,by omega,r⟩
theorem fits_take {l:List Rg} (h:∀i,(hi:i<l.length)->0<=l[i].lo/\l[i].lo<=l[i].hi/\l[i].hi<=1114111):Fits l:=λr hr=>by
 obtain ⟨i,hi,rfl⟩:=List.getElem_of_mem hr;exact h i hi
def MakeTells (l:List Rg) (w:World) (e:Ending) (w':World):Prop :=
 ((¬Fits l/\e = .returned (.tuple #[.slice none 0 0,.int .i64 1]))\/(Fits l/\∃s v',Upto (hasR l) s 1114112/\s.length<=l.length/\e = .returned (.tuple #[v',.int .i64 0])/\w'.ownsRow w.heap.size 94 2 v' s.length (cellsRs s)))/\Below w.heap.size w w'
theorem addL_length (l:List Rg) (r:Rg):(addL l r).length<=l.length+1:=by
 rcases list_last l with rfl | ⟨ini,s,rfl⟩
 · simp [addL_nil]
 · by_cases q:r.lo<=s.hi+1
   · rw [addL_join q];simp
   · rw [addL_snoc q];simp
theorem make_any (l:List Rg) (v:Value) (w:World) (hbig:l.length*16<=140737488355328) (hv:RngIn w v l) :
 Calls Tryz.prog 59 #[v] w λe w'=>MakeTells l w e w':=by
 have HV:Hid (RngIn w v l):=hv;obtain ⟨a,cap,rfl,hc,hcell⟩:=hv;have HA:Hid (∀i,(h:i<l.length)->∃g off,a=some ⟨g,off,none⟩/\g<w.heap.size/\w.cell? ⟨g,off+i*2,none⟩=some (.int .i64 l[i].lo)/\w.cell? ⟨g,off+i*2+1,none⟩=some (.int .i64 l[i].hi)):=hcell;clear hcell;go_enter Tryz.func59,Tryz.ntmps59;go_wp2
 go_loopw [12] (λx wr=>∃k:Nat,k<=l.length/\x = .int .i64 k/\(∀i,(h:i<l.length)->i<k->0<=l[i].lo/\l[i].lo<=l[i].hi/\l[i].hi<=1114111)/\Below w.heap.size w wr) (λx _=>l.length-(intOf x).toNat)
 case atStart=>exact ⟨0,Nat.zero_le _,rfl,λi h q=>by omega,Below.refl _ _⟩
 case round =>
  obtain ⟨k,hk,rfl,hok,hB⟩:=hrel;have HOK:Hid (∀i,(h:i<l.length)->i<k->0<=l[i].lo/\l[i].lo<=l[i].hi/\l[i].hi<=1114111):=hok;clear hok;have hbs:=hB.size;by_cases hlt:k<l.length
  · obtain ⟨g,off,rfl,hg,c0,c1⟩:=HA.out k hlt;obtain ⟨r,hr⟩ :∃r,r=l[k]:=⟨_,rfl⟩;rw [<- hr] at c0 c1;have HR:Hid (r=l[k]):=hr;have d0:wr.cell? ⟨g,off+k*2,none⟩=some (.int .i64 r.lo):=(hB.cell (p:=⟨g,_,none⟩) hg).trans c0;have d1:wr.cell? ⟨g,off+k*2+1,none⟩=some (.int .i64 r.hi):=(hB.cell (p:=⟨g,_,none⟩) hg).trans c1;clear c0 c1 hr;have hB2:Below w.heap.size w (wr.alloc (.cells #[.int .i64 r.lo,.int .i64 r.hi] 94)):=hB.alloc hbs _;have HNF:Hid (¬(0<=r.lo/\r.lo<=r.hi/\r.hi<=1114111)->¬Fits l):=λq f=>q (f r (by rw [HR.out];exact List.getElem_mem hlt) |> λz=>⟨z.1,z.2.1,z.2.2⟩);by_cases q0:r.lo<0
    · have HN:Hid (¬Fits l):=HNF.out (by omega);go_wp2
      go_ret2
      exact ⟨.inl ⟨HN.out,rfl⟩,hB2⟩
    · by_cases q1:1114111<r.hi
      · have HN:Hid (¬Fits l):=HNF.out (by omega);go_wp2
        go_ret2
        exact ⟨.inl ⟨HN.out,rfl⟩,hB2⟩
      · by_cases q2:r.hi<r.lo
        · have HN:Hid (¬Fits l):=HNF.out (by omega);go_wp2
          go_ret2
          exact ⟨.inl ⟨HN.out,rfl⟩,hB2⟩
        · have HO2:Hid (∀i,(h:i<l.length)->i<k+1->0<=l[i].lo/\l[i].lo<=l[i].hi/\l[i].hi<=1114111):=λi h q=>by
           by_cases e:i=k
           · subst e;rw [<- HR.out];omega
           · exact HOK.out i h (by omega)
          go_wp2
          go_roundw
          case rel=>exact ⟨k+1,by omega,by go_num,HO2.out,hB2⟩
          case measure=>simp [intOf];omega
  · obtain rfl:k=l.length:=by omega
    have HF:Hid (Fits l):=fits_take (λi hi=>HOK.out i hi hi);clear HOK
    go_wp2_with fail
    refine (clone_any l _ wr hbig (HV.out.below hB)).mono ?_;rintro e w1 ⟨v1,rfl,ho1,hB1⟩;have hs1:=hB1.size;have HO1:Hid (w1.ownsRow wr.heap.size 94 2 v1 l.length (cellsRs l)):=ho1;clear ho1
    go_wp2_with fail
    refine (sort_any wr.heap.size l v1 w1 (by omega) hs1 HO1.out).mono ?_;rintro e w2 ⟨rfl,s,hord,hv2,hB2⟩;have hs2:=hB2.size;have hB02:Below w.heap.size w w2:=(hB.trans (hB1.mono hbs)).trans (hB2.mono (by omega));have HV2:Hid (RngIn w2 v1 s):=hv2;have HORD:Hid (Ordered l s):=hord;have hsl:s.length=l.length:=hord.1;obtain ⟨a2,cap2,rfl,hc2,hcell2⟩:=hv2;have HC2:Hid (∀i,(h:i<s.length)->∃g off,a2=some ⟨g,off,none⟩/\g<w2.heap.size/\w2.cell? ⟨g,off+i*2,none⟩=some (.int .i64 s[i].lo)/\w2.cell? ⟨g,off+i*2+1,none⟩=some (.int .i64 s[i].hi)):=hcell2;have HSF:Hid (Fits s):=λr hr=>HF.out r ((hord.2.1 r).1 hr);have HBB:Hid (Below w.heap.size w w2):=hB02;have hbs2:=hB02.size;clear hcell2 hord HO1 HV2 hB1 hB2 hB hB02 hs1 hs2 hbs HA HV;go_wp2
    go_loopw [7,38] (λy x wr=>∃(k:Nat) (out:List Rg) (b:Int),k<=s.length/\x = .int .i64 k/\Grown (s.take k) out b/\(∀i,(h:i<s.length)->k<=i->b<=s[i].lo)/\out.length<=k/\wr.ownsRow w2.heap.size 94 2 y out.length (cellsRs out)/\Below w2.heap.size w2 wr) (λ_ x _=>s.length-(intOf x).toNat)
    case atStart=>exact ⟨0,[],0,Nat.zero_le _,rfl,⟨trivial,λx=>rfl,λt ht=>by cases ht⟩,λi h q=>(HSF.out _ (List.getElem_mem h)).1,Nat.le_refl _,World.ownsRow_nil _ _ _ _,Below.refl _ _⟩
    case round =>
     obtain ⟨k,out,b,hk2,rfl,hgr,hbl,hol,ho,hB3⟩:=hrel;have HGR:Hid (Grown (s.take k) out b):=hgr;have HBL:Hid (∀i,(h:i<s.length)->k<=i->b<=s[i].lo):=hbl;have HO:Hid (wr.ownsRow w2.heap.size 94 2 _ out.length (cellsRs out)):=ho;have HFT:Hid (Fits (s.take k)):=λr hr=>HSF.out r (List.mem_of_mem_take hr);have HUP:Hid (Upto (hasR (s.take k)) out 1114112):=hgr.upto HFT.out;clear hgr hbl ho;have hbs3:=hB3.size;by_cases hlt2:k<s.length
     · obtain ⟨g,off,rfl,hg,c0,c1⟩:=HC2.out k hlt2;obtain ⟨r,hr⟩ :∃r,r=s[k]:=⟨_,rfl⟩;rw [<- hr] at c0 c1;have HR:Hid (r=s[k]):=hr;have hrf:=HSF.out r (by rw [hr];exact List.getElem_mem hlt2);have hrb:b<=r.lo:=by rw [hr];exact HBL.out k hlt2 (Nat.le_refl _)
       have d0:wr.cell? ⟨g,off+k*2,none⟩=some (.int .i64 r.lo):=(hB3.cell (p:=⟨g,_,none⟩) hg).trans c0;have d1:wr.cell? ⟨g,off+k*2+1,none⟩=some (.int .i64 r.hi):=(hB3.cell (p:=⟨g,_,none⟩) hg).trans c1;have HTK:Hid (s.take (k+1)=s.take k++[r]):=by show _=_;rw [hr];exact List.take_succ_eq_append_getElem hlt2
       clear c0 c1 hr;have HG2:Hid (Grown (s.take (k+1)) (addL out r) r.lo):=by
        show Grown _ _ _;rw [HTK.out];exact HGR.out.add r hrf.1 hrb hrf.2.1
       have HL2:Hid ((addL out r).length<=k+1):=by have:=addL_length out r;show _<=_;omega
       have HBL2:Hid (∀i,(h:i<s.length)->k+1<=i->r.lo<=s[i].lo):=λi h q=>by rw [HR.out];exact HORD.out.2.2 k i (by omega) hlt2 h
       go_wp2_with fail
       refine (add_any w2.heap.size out r _ (wr.alloc (.cells #[.int .i64 r.lo,.int .i64 r.hi] 94)) (by have:=HUP.out.len (by omega) (by omega);omega) (λt ht=>by have:=HUP.out.hi t ht;omega) (by simp;omega) (World.ownsRow.alloc HO.out _)).mono ?_;rintro e w4 ⟨v4,rfl,ho4,hB4⟩;have HO4:Hid (w4.ownsRow w2.heap.size 94 2 v4 (addL out r).length (cellsRs (addL out r))):=ho4;have hB34:Below w2.heap.size w2 w4:=(hB3.alloc hbs3 _).trans hB4;clear ho4 HO d0 d1;go_wp2
       go_roundw
       case rel=>exact ⟨k+1,addL out r,r.lo,by omega,by go_num,HG2.out,HBL2.out,HL2.out,HO4.out,hB34⟩
       case measure=>simp [intOf];omega
     · obtain rfl:k=s.length:=by omega
       have HUP2:Hid (Upto (hasR l) out 1114112):=by
        have h1:=HUP.out;rw [List.take_length] at h1;exact h1.congr (λx _ _=>hasR_perm HORD.out.2.1 x)
       go_wp2
       go_ret2
       exact ⟨.inr ⟨HF.out,out,_,HUP2.out,by omega,rfl,own_mono HO.out hbs2⟩,HBB.out.trans (hB3.mono hbs2)⟩
end Go.Proofs.YtfdjchnckjgapaaGreatDoor
namespace Go.Proofs.YtfdjchnckjgapaaGreatDoor
open Go.RowKit S1
set_option linter.unusedVariables false
def isC (c:Int) (r:Int):Bool:=r==c
def nameB (r:Int):Bool:=decide (97<=r)&&decide (r<=122)
def decB (r:Int):Bool:=decide (48<=r)&&decide (r<=57)
def nameR (r:Int):Bool:=nameB r||decB r||r==95
def figR (r:Int):Bool:=decB r||(decide (65<=r)&&decide (r<=70))
def blankR (r:Int):Bool:=r==32||r==9||r==13||r==10
def noteR (r:Int):Bool:=r != 10
def tokR (r:Int):Bool:=r==61||r==59||r==47||r==124||r==42||r==43||r==63||r==40||r==41||r==46||r==126||r==38||r==45
def guardR (r:Int):Bool:=r==91||r==93||r==45||r==92
def plainR (r:Int):Bool:=decide (32<=r) && !guardR r
def fitU (p:Int->Bool) (u:U):Bool := !u.bad&&p u.r
def sgn (p:Int->Bool):List U->Option Int×List U
 | []=>(none,[])
 | u::t=>if fitU p u=true then (some u.r,t) else (none,u::t)
def figsD:Nat->List U->List U
 | 0,us=>us
 | _+1,[]=>[]
 | n+1,u::t=>if fitU figR u=true then figsD n t else u::t
def figsL:Nat->List U->List Int
 | 0,_=>[]
 | _+1,[]=>[]
 | n+1,u::t=>if fitU figR u=true then u.r::figsL n t else []
def figV (c:Int):Int:=if c<=57 then c-48 else c-55
def hexV (l:List Int):Int:=l.foldl (λn c=>n*16+figV c) 0
def numL (us:List U):Option Int×List U :=
 if (figsL 6 us).isEmpty=true then (none,us)
 else match sgn (isC 125) (figsD 6 us) with
  | (some _,r)=>(some (hexV (figsL 6 us)),r)
  | (none,r)=>(none,r)
def letL (us:List U):Option Int×List U :=
 match sgn (isC 92) us with
 | (none,_)=>sgn plainR us
 | (some _,a)=>match sgn (isC 120) a with
  | (none,_)=>sgn guardR a
  | (some _,b)=>match sgn (isC 123) b with
   | (none,_)=>(none,b)
   | (some _,c)=>numL c
def entL (us:List U):Option Rg×List U :=
 match letL us with
 | (none,r)=>(none,r)
 | (some lo,r)=>match sgn (isC 45) r with
  | (none,_)=>(some ⟨lo,lo⟩,r)
  | (some _,a)=>match letL a with
   | (none,b)=>(none,b)
   | (some hi,b)=>(some ⟨lo,hi⟩,b)
def atL (n:Nat):List U->Nat
 | []=>n
 | u::_=>u.p
def stuckE:List U->Int
 | []=>7
 | _::_=>6
abbrev SR:=(Nat×Int) ⊕ (List Rg×List U)
abbrev SR.bad (a:Nat) (e:Int):SR:=Sum.inl (a,e)
abbrev SR.good (l:List Rg) (r:List U):SR:=Sum.inr (l,r)
def setF (n:Nat):Nat->List U->List Rg->SR
 | 0,_,_=>SR.bad 0 0
 | k+1,us,acc=>match sgn (isC 93) us with
  | (some _,r)=>SR.good acc r
  | (none,_)=>match entL us with
   | (none,r)=>SR.bad (atL n r) (stuckE r)
   | (some e,r)=>if (decide (e.hi<e.lo)||decide (1114111<e.hi))=true then SR.bad (atL n us) 1 else setF n k r (acc++[e])
def blankL:Bool->List U->List U
 | _,[]=>[]
 | true,u::t=>if u.bad=true then u::t else if u.r=10 then blankL false t else blankL true t
 | false,u::t=>if u.bad=true then u::t else if u.r=35 then blankL true t else if blankR u.r=true then blankL false t else u::t
structure Tok where
 k:Int
 p:Nat
 t:List Int
 s:List Rg
abbrev OR:=(Nat×Int) ⊕ (Tok×List U)
abbrev OR.bad (a:Nat) (e:Int):OR:=Sum.inl (a,e)
abbrev OR.good (t:Tok) (r:List U):OR:=Sum.inr (t,r)
def ofSet (p:Nat):SR->OR
 | .inl (a,e)=>OR.bad a e
 | .inr (l,r)=>OR.good ⟨3,p,[],l⟩ r
def tokO (n:Nat):List U->OR
 | []=>OR.good ⟨4,n,[],[]⟩ []
 | u::t=>if fitU nameB u=true then OR.good ⟨1,u.p,u.r::(t.takeWhile (fitU nameR)).map U.r,[]⟩ (t.dropWhile (fitU nameR))
  else if fitU tokR u=true then OR.good ⟨2,u.p,[u.r],[]⟩ t
  else if fitU (isC 91) u=true then ofSet u.p (setF n (t.length+1) t [])
  else OR.bad u.p 6
abbrev TR:=(Nat×Int) ⊕ List Tok
abbrev TR.bad (a:Nat) (e:Int):TR:=Sum.inl (a,e)
abbrev TR.good (l:List Tok):TR:=Sum.inr l
def toksF (n:Nat):Nat->List U->List Tok->TR
 | 0,_,_=>TR.bad 0 0
 | k+1,us,acc=>match tokO n (blankL false us) with
  | .inl (a,e)=>TR.bad a e
  | .inr (t,r)=>if t.k=4 then TR.good (acc++[t]) else toksF n k r (acc++[t])
def toksL (n:Nat) (us:List U):TR:=toksF n (us.length+1) us []
theorem sgn_cons (p:Int->Bool) (u:U) (t:List U):sgn p (u::t)=if fitU p u=true then (some u.r,t) else (none,u::t):=rfl
theorem sgn_some {p:Int->Bool} {us r:List U} {x:Int} (h:sgn p us=(some x,r)) :∃u,us=u::r/\fitU p u=true/\u.r=x:=by
 match us with
 | []=>simp [sgn] at h
 | u::t =>
  rw [sgn_cons] at h
  split at h
  · rename_i q;simp only [Prod.mk.injEq,Option.some.injEq] at h;exact ⟨u,by rw [h.2],q,h.1⟩
  · simp at h
theorem sgn_none {p:Int->Bool} {us r:List U} (h:sgn p us=(none,r)):r=us/\(us=[]\/∃u t,us=u::t/\fitU p u=false):=by
 match us with
 | []=>simp [sgn] at h;exact ⟨h.symm ▸ rfl,.inl rfl⟩
 | u::t =>
  rw [sgn_cons] at h
  split at h
  · simp at h
  · rename_i q;simp only [Prod.mk.injEq,true_and] at h;exact ⟨h.symm,.inr ⟨u,t,rfl,by simpa using q⟩⟩
theorem sgn_len {p:Int->Bool} {us r:List U} {x:Int} (h:sgn p us=(some x,r)):r.length+1=us.length:=by
 obtain ⟨u,rfl,_⟩:=sgn_some h;rfl
theorem figsD_le:∀(n:Nat) (us:List U),(figsD n us).length<=us.length
 | 0,us=>Nat.le_refl _
 | n+1,[]=>Nat.le_refl _
 | n+1,u::t=>by
  unfold figsD
  split
  · have:=figsD_le n t;simp only [List.length_cons];omega
  · exact Nat.le_refl _
theorem numL_len {us r:List U} {x:Int} (h:numL us=(some x,r)):r.length<us.length:=by
 unfold numL at h
 split at h
 · simp at h
 · split at h
   · rename_i a b c;have h2:=sgn_len c;simp only [Prod.mk.injEq] at h;have:=figsD_le 6 us;rw [<- h.2];omega
   · simp at h
theorem letL_len {us r:List U} {x:Int} (h:letL us=(some x,r)):r.length<us.length:=by
 unfold letL at h
 split at h
 · have:=sgn_len h;omega
 · rename_i a c;have h1:=sgn_len c
   split at h
   · have:=sgn_len h;omega
   · rename_i a2 c2;have h2:=sgn_len c2
     split at h
     · simp at h
     · rename_i a3 c3;have h3:=sgn_len c3;have:=numL_len h;omega
theorem entL_len {us r:List U} {x:Rg} (h:entL us=(some x,r)):r.length<us.length:=by
 unfold entL at h
 split at h
 · simp at h
 · rename_i lo a c;have h1:=letL_len c
   split at h
   · simp only [Prod.mk.injEq] at h;rw [<- h.2];exact h1
   · rename_i a2 c2;have h2:=sgn_len c2
     split at h
     · simp at h
     · rename_i hi b c3;have h3:=letL_len c3;simp only [Prod.mk.injEq] at h;rw [<- h.2];omega
theorem setF_end {n k:Nat} {us r:List U} {x:Int} {acc:List Rg} (h:sgn (isC 93) us=(some x,r)):setF n (k+1) us acc=SR.good acc r:=by
 unfold setF;rw [h]
theorem setF_stuck {n k:Nat} {us r s:List U} {acc:List Rg} (h:sgn (isC 93) us=(none,s)) (h2:entL us=(none,r)):setF n (k+1) us acc=SR.bad (atL n r) (stuckE r):=by
 unfold setF;rw [h];simp only;rw [h2]
theorem setF_arg {n k:Nat} {us r s:List U} {acc:List Rg} {e:Rg} (h:sgn (isC 93) us=(none,s)) (h2:entL us=(some e,r)) (h3:(decide (e.hi<e.lo)||decide (1114111<e.hi))=true):setF n (k+1) us acc=SR.bad (atL n us) 1:=by
 unfold setF;rw [h];simp only;rw [h2];simp only;rw [if_pos h3]
theorem setF_on {n k:Nat} {us r s:List U} {acc:List Rg} {e:Rg} (h:sgn (isC 93) us=(none,s)) (h2:entL us=(some e,r)) (h3:(decide (e.hi<e.lo)||decide (1114111<e.hi))=false):setF n (k+1) us acc=setF n k r (acc++[e]):=by
 rw [setF];rw [h];simp only;rw [h2];simp only;rw [h3];simp
theorem setF_len {n:Nat}:∀ {k:Nat} {us r:List U} {acc l:List Rg},setF n k us acc=SR.good l r->r.length<us.length
 | 0,us,r,acc,l,h=>by cases h
 | k+1,us,r,acc,l,h=>by
  cases h1:sgn (isC 93) us with
  | mk o s=>cases o with
   | some x=>rw [setF_end h1] at h;obtain ⟨e1,e2⟩:=Prod.mk.inj (Sum.inr.inj h);have:=sgn_len h1;rw [<- e2];omega
   | none=>cases h2:entL us with
    | mk o2 r2=>cases o2 with
     | none=>rw [setF_stuck h1 h2] at h;cases h
     | some e =>
      cases h3:(decide (e.hi<e.lo)||decide (1114111<e.hi)) with
      | true=>rw [setF_arg h1 h2 h3] at h;cases h
      | false=>rw [setF_on h1 h2 h3] at h;have:=setF_len h;have:=entL_len h2;omega
theorem blankL_le:∀(b:Bool) (us:List U),(blankL b us).length<=us.length
 | _,[]=>by simp [blankL]
 | true,u::t=>by
  unfold blankL;have h1:=blankL_le true t;have h2:=blankL_le false t
  repeat' split
  all_goals simp only [List.length_cons]
  all_goals omega
 | false,u::t=>by
  unfold blankL;have h1:=blankL_le true t;have h2:=blankL_le false t
  repeat' split
  all_goals simp only [List.length_cons]
  all_goals omega
theorem dropWhile_le (p:U->Bool):∀(l:List U),(l.dropWhile p).length<=l.length
 | []=>by simp
 | u::t=>by
  simp only [List.dropWhile_cons];have:=dropWhile_le p t
  split
  · simp only [List.length_cons];omega
  · exact Nat.le_refl _
theorem tokO_cons (n:Nat) (u:U) (t:List U):tokO n (u::t)=if fitU nameB u=true then OR.good ⟨1,u.p,u.r::(t.takeWhile (fitU nameR)).map U.r,[]⟩ (t.dropWhile (fitU nameR))
 else if fitU tokR u=true then OR.good ⟨2,u.p,[u.r],[]⟩ t
 else if fitU (isC 91) u=true then ofSet u.p (setF n (t.length+1) t [])
 else OR.bad u.p 6:=rfl
theorem tokO_len {n:Nat} {us r:List U} {t:Tok} (h:tokO n us=OR.good t r):(t.k=4/\us=[]/\t=⟨4,n,[],[]⟩)\/(t.k≠4/\r.length<us.length):=by
 match us with
 | [] =>
  left
  have h':OR.good ⟨4,n,[],[]⟩ []=OR.good t r:=h;obtain ⟨e1,e2⟩:=Prod.mk.inj (Sum.inr.inj h');exact ⟨by rw [<- e1],rfl,e1.symm⟩
 | u::t' =>
  right
  rw [tokO_cons] at h
  split at h
  · obtain ⟨e1,e2⟩:=Prod.mk.inj (Sum.inr.inj h);refine ⟨by rw [<- e1];exact (by decide:(1:Int)≠4),?_⟩;rw [<- e2];have:=dropWhile_le (fitU nameR) t';simp only [List.length_cons];omega
  · split at h
    · obtain ⟨e1,e2⟩:=Prod.mk.inj (Sum.inr.inj h);exact ⟨by rw [<- e1];exact (by decide:(2:Int)≠4),by rw [<- e2];simp⟩
    · split at h
      · cases h1:setF n (t'.length+1) t' [] with
        | inl x=>rw [h1] at h;cases h
        | inr x =>
         obtain ⟨l,s⟩:=x;rw [h1] at h;have h:=Prod.mk.inj (Sum.inr.inj h);have:=setF_len h1;exact ⟨by rw [<- h.1];exact (by decide:(3:Int)≠4),by rw [<- h.2];simp only [List.length_cons];omega⟩
      · cases h
theorem toksF_bad {n k:Nat} {us:List U} {acc:List Tok} {a:Nat} {e:Int} (h:tokO n (blankL false us)=OR.bad a e):toksF n (k+1) us acc=TR.bad a e:=by
 unfold toksF;rw [h]
theorem toksF_end {n k:Nat} {us r:List U} {acc:List Tok} {t:Tok} (h:tokO n (blankL false us)=OR.good t r) (h4:t.k=4):toksF n (k+1) us acc=TR.good (acc++[t]):=by
 unfold toksF;rw [h];simp only;rw [if_pos h4]
theorem toksF_on {n k:Nat} {us r:List U} {acc:List Tok} {t:Tok} (h:tokO n (blankL false us)=OR.good t r) (h4:t.k≠4):toksF n (k+1) us acc=toksF n k r (acc++[t]):=by
 rw [toksF];rw [h];simp only;rw [if_neg h4]
theorem unit_ascii {zs:List Int} {p:Nat} (hp:p<zs.length) {u:U} (hu:u=unitAt zs p) (hb:u.bad=false) (hr:u.r<128):u.w=1/\u.p=p/\zs[p]? = some u.r:=by
 have hl:1<=(zs.drop p).length:=by rw [List.length_drop];omega
 have e:=unD_good hl (show (unD (zs.drop p)).bad=false by rw [hu] at hb;exact hb);have er:(unD (zs.drop p)).r=u.r:=by rw [hu];rfl
 have ew:(unD (zs.drop p)).w=u.w:=by rw [hu];rfl
 rw [er,ew] at e;have e1:encR u.r=[u.r]:=by unfold encR;rw [if_pos hr]
 rw [e1] at e;have hw:u.w=1:=by
  have h5:=congrArg List.length e.2.1;have h6:=e.2.2;rw [List.length_take,List.length_singleton] at h5;omega
 refine ⟨hw,by rw [hu];rfl,?_⟩;have e2:=e.2.1;rw [hw,List.drop_eq_getElem_cons hp,List.take_succ_cons] at e2
 injection e2 with e3 e4
 rw [List.getElem?_eq_getElem hp,e3]
theorem run_bad {zs:List Int}:∀ {us:List U} {p q:Nat},Run zs p us q->∀u∈us,u.bad=true->u.r=65533
 | [],_,_,_,u,h,_=>by cases h
 | v::us,p,q,hr,u,h,hb=>by
  rcases List.mem_cons.1 h with e | e
  · rw [e,hr.2.1] at hb ⊢;exact (unD_bad hb).1
  · exact run_bad hr.2.2 u e hb
theorem run_range {zs:List Int}:∀ {us:List U} {p q:Nat},Run zs p us q->∀u∈us,0<=u.r/\u.r<=1114111
 | [],_,_,_,u,h=>by cases h
 | v::us,p,q,hr,u,h=>by
  rcases List.mem_cons.1 h with e | e
  · rw [e,hr.2.1];exact unitAt_r hr.1
  · exact run_range hr.2.2 u e
theorem run_at {zs:List Int} {us:List U} {p:Nat} (h:Run zs p us zs.length):atL zs.length us=p:=by
 match us,h with
 | [],h=>exact (show p=zs.length from h).symm
 | u::t,h=>show u.p=p;rw [h.2.1];rfl
theorem run_take {zs:List Int}:∀ {a b:List U} {p q:Nat},Run zs p (a++b) q->(∀u∈a,u.bad=false/\u.r<128)->Run zs (p+a.length) b q/\(zs.drop p).take a.length=a.map U.r/\p+a.length<=zs.length\/a=[]/\Run zs p b q
 | [],b,p,q,h,_ => .inr ⟨rfl,h⟩
 | u::a,b,p,q,h,ha=>by
  left
  have hu:=ha u (by simp);obtain ⟨hw,hp,hz⟩:=unit_ascii h.1 h.2.1 hu.1 hu.2;have h2:Run zs (p+1) (a++b) q:=by have:=h.2.2;rw [hw] at this;exact this
  obtain ⟨hlt,hzv⟩:=List.getElem?_eq_some_iff.1 hz;rcases run_take h2 (λv hv=>ha v (by simp [hv])) with ⟨h3,h4,h5⟩ | ⟨rfl,h3⟩
  · refine ⟨by simp only [List.length_cons];rw [show p+(a.length+1)=p+1+a.length by omega];exact h3,?_,by simp only [List.length_cons];omega⟩;rw [List.drop_eq_getElem_cons hlt,List.length_cons,List.take_succ_cons,h4,hzv];rfl
  · refine ⟨by simpa using h3,?_,by simp only [List.length_cons,List.length_nil];omega⟩;rw [List.drop_eq_getElem_cons hlt,hzv];simp
end Go.Proofs.YtfdjchnckjgapaaGreatDoor
