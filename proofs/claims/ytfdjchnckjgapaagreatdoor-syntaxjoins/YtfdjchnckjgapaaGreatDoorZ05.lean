/-
  Rdr Rules7 Signs
-/
import Derived.Test.YtfdjchnckjgapaaGreatDoorZ04
import Derived.Test.YtfdjchnckjgapaaGreatDoorZ02
import Derived.Test.YtfdjchnckjgapaaGreatDoorZ01
import Derived.Maps.RangeWalk
import Derived.Shelf.Abstract
namespace Go.Proofs.YtfdjchnckjgapaaGreatDoor
open Go.RowKit S1
set_option linter.unusedVariables false
def UniAt (R:Nat) (w:World) (v:Value) (us:List U):Prop :=
 ∃a cap,v = .slice a us.length cap/\us.length<=cap/\∀i,(h:i<us.length)->∃g off,a=some ⟨g,off,none⟩/\g<R /\
  w.cell? ⟨g,off+i*4,none⟩=some (.int .i64 us[i].r)/\w.cell? ⟨g,off+i*4+1,none⟩=some (.int .i64 (us[i].p:Int))/\w.cell? ⟨g,off+i*4+3,none⟩=some (.bool us[i].bad)
def TxtAt (R:Nat) (w:World) (v:Value) (zs:List Int):Prop :=
 ∃a cap,v = .slice a zs.length cap/\zs.length<=cap/\∀i,(h:i<zs.length)->∃g off,a=some ⟨g,off,none⟩/\g<R/\w.cell? ⟨g,off+i,none⟩=some (.int .u8 zs[i])
theorem UniAt.grown {R:Nat} {w w':World} {v:Value} {us:List U} (h:UniAt R w v us) (hg:w.grownBy w' (some R)):UniAt R w' v us:=by
 obtain ⟨a,cap,rfl,hc,hi⟩:=h;refine ⟨a,cap,rfl,hc,λi hlt => ?_⟩;obtain ⟨g,off,rfl,hgl,h0,h1,h3⟩:=hi i hlt;exact ⟨g,off,rfl,hgl,hg.cell h0 (by simp;omega),hg.cell h1 (by simp;omega),hg.cell h3 (by simp;omega)⟩
theorem TxtAt.grown {R:Nat} {w w':World} {v:Value} {zs:List Int} (h:TxtAt R w v zs) (hg:w.grownBy w' (some R)):TxtAt R w' v zs:=by
 obtain ⟨a,cap,rfl,hc,hi⟩:=h;refine ⟨a,cap,rfl,hc,λi hlt => ?_⟩;obtain ⟨g,off,rfl,hgl,h0⟩:=hi i hlt;exact ⟨g,off,rfl,hgl,hg.cell h0 (by simp;omega)⟩
def SynV (w:World):Prop:=∃te pe,w.cell? ⟨7,0,none⟩=some (.iface te pe)
theorem SynV.lt {w:World} (h:SynV w):7<w.heap.size:=by
 obtain ⟨te,pe,h⟩:=h;rcases Nat.lt_or_ge 7 w.heap.size with q | q
 · exact q
 · simp [World.cell?,Array.getElem?_eq_none q] at h
theorem SynV.grown {w w':World} {row:Option Nat} (h:SynV w) (hg:w.grownBy w' row) (hr:some 7≠row):SynV w':=by
 obtain ⟨te,pe,h⟩:=h;exact ⟨te,pe,hg.cell h hr⟩
def Rd (w:World) (R:Nat) (tv:Value) (us:List U):Prop :=
 ∃uv,w.cell? ⟨R,0,none⟩=some tv/\w.cell? ⟨R,1,none⟩=some uv/\w.frozen? ⟨R,1,none⟩=false/\R<w.heap.size/\(SynV w/\7<R)/\UniAt R w uv us
theorem Rd.kept {w w':World} {R:Nat} {tv:Value} {us:List U} (h:Rd w R tv us) (hg:w.grownBy w' none):Rd w' R tv us:=by
 obtain ⟨uv,h0,h1,hf,hl,hsv,hu⟩:=h;refine ⟨uv,hg.cell h0 (by simp),hg.cell h1 (by simp),?_,Nat.lt_of_lt_of_le hl hg.size,⟨hsv.1.grown hg (by simp),hsv.2⟩,hu.grown (hg.but _)⟩;rw [<- hf];exact World.frozen?_of_block (a:=⟨R,1,none⟩) (hg.block R hl (by simp))
theorem Rd.alloc {w:World} {R:Nat} {tv:Value} {us:List U} (h:Rd w R tv us) (o:Obj):Rd (w.alloc o) R tv us:=h.kept (World.grownBy_alloc w o none)
theorem grownR_below {w w':World} (h:Below w.heap.size w w') (row:Option Nat):w.grownBy w' row:=⟨h.os,h.tape,h.output,h.size,λk hk _=>h.block k hk⟩
theorem grownR_set (w:World) (R i:Nat) (v:Value):w.grownBy (w.setCell ⟨R,i,none⟩ v) (some R) :=
 ⟨rfl,rfl,rfl,by simp [World.setCell],λk _ hne=>Below.heap_setCell w ⟨R,i,none⟩ v k (by simpa using hne)⟩
theorem grownR_drew {a w:World} {row:Option Nat} (h:a.grownBy w row):a.grownBy w.drew row:=⟨h.os,h.tape,h.output,h.size,h.block⟩
theorem grownR_drewN {a w:World} {row:Option Nat} (h:a.grownBy w row):∀k,a.grownBy (w.drewN k) row
 | 0=>h
 | k+1=>grownR_drew (grownR_drewN h k)
theorem UniAt.tail {R:Nat} {w:World} {g off cap:Nat} {u:U} {t:List U} (h:UniAt R w (.slice (some ⟨g,off,none⟩) (t.length+1) cap) (u::t)) (a':Option Addr) (ha:t.length≠0->a'=some ⟨g,off+4,none⟩):UniAt R w (.slice a' t.length (cap-1)) t:=by
 obtain ⟨a,c,e,hc,hi⟩:=h;obtain ⟨rfl,_,rfl⟩:some ⟨g,off,none⟩=a/\t.length+1=(u::t).length/\cap=c:=by simpa using e
 refine ⟨a',_,rfl,by simp at hc;omega,λi hlt => ?_⟩;obtain ⟨g',off',e2,hg,h0,h1,h3⟩:=hi (i+1) (by simpa using hlt);obtain ⟨rfl,rfl⟩:g=g'/\off=off':=by simpa using e2
 have q:off+4+i*4=off+(i+1)*4:=by omega
 refine ⟨g,off+4,ha (by omega),hg,?_,?_,?_⟩
 · rw [q];simpa using h0
 · rw [q];simpa using h1
 · rw [q];simpa using h3
theorem UniAt.tail' {R:Nat} {w:World} {g off cap:Nat} {u:U} {t:List U} (h:UniAt R w (.slice (some ⟨g,off,none⟩) (t.length+1) cap) (u::t)) (a':Option Addr) (c':Nat) (ha:t.length≠0->a'=some ⟨g,off+4,none⟩/\c'=cap-1):UniAt R w (.slice a' t.length c') t:=by
 by_cases q:t.length=0
 · exact ⟨a',c',rfl,by omega,λi hi=>by omega⟩
 · obtain ⟨e1,e2⟩:=ha q;rw [e2];exact h.tail a' (λ_=>e1)
theorem Rd.took {w:World} {R:Nat} {tv:Value} {u:U} {t:List U} (h:Rd w R tv (u::t)) (v:Value) (hv:UniAt R w v t):Rd (w.setCell ⟨R,1,none⟩ v) R tv t:=by
 obtain ⟨uv,h0,h1,hf,hl,hsv,hu⟩:=h;refine ⟨v,?_,?_,?_,by simpa [World.setCell] using hl,⟨hsv.1.grown (grownR_set w R 1 v) (by simp;omega),hsv.2⟩,hv.grown (grownR_set w R 1 v)⟩
 · exact (World.cell?_setCell_other w ⟨R,1,none⟩ ⟨R,0,none⟩ v (by simp)).trans h0
 · exact World.cell?_setCell_same' w ⟨R,1,none⟩ v (by rw [h1];rfl)
 · rw [World.frozen?_setCell];exact hf
theorem Rd.set {w:World} {B R:Nat} {tv:Value} {us:List U} (h:Rd w R tv us) (hB:R<B) (i:Nat) (v:Value):Rd (w.setCell ⟨B,i,none⟩ v) R tv us:=by
 obtain ⟨uv,h0,h1,hf,hl,hsv,hu⟩:=h;have hg:=grownR_set w B i v;refine ⟨uv,hg.cell h0 (by simp;omega),hg.cell h1 (by simp;omega),by rw [World.frozen?_setCell];exact hf,by simpa [World.setCell] using hl,⟨hsv.1.grown hg (by simp;omega),hsv.2⟩,?_⟩;obtain ⟨a,cap,rfl,hc,hi⟩:=hu;refine ⟨a,cap,rfl,hc,λj hlt => ?_⟩;obtain ⟨g,off,rfl,hgl,d0,d1,d3⟩:=hi j hlt;exact ⟨g,off,rfl,hgl,hg.cell d0 (by simp;omega),hg.cell d1 (by simp;omega),hg.cell d3 (by simp;omega)⟩
theorem TxtAt.set {w:World} {B R:Nat} {tv:Value} {zs:List Int} (h:TxtAt R w tv zs) (hB:R<B) (i:Nat) (v:Value):TxtAt R (w.setCell ⟨B,i,none⟩ v) tv zs:=by
 have hg:=grownR_set w B i v;obtain ⟨a,cap,rfl,hc,hi⟩:=h;refine ⟨a,cap,rfl,hc,λj hlt => ?_⟩;obtain ⟨g,off,rfl,hgl,d0⟩:=hi j hlt;exact ⟨g,off,rfl,hgl,hg.cell d0 (by simp;omega)⟩
theorem Rd.cons {w:World} {R:Nat} {tv:Value} {u:U} {t:List U} (h:Rd w R tv (u::t)) :∃g off cap,w.cell? ⟨R,1,none⟩=some (.slice (some ⟨g,off,none⟩) (t.length+1) cap)/\t.length+1<=cap/\w.frozen? ⟨R,1,none⟩=false/\R<w.heap.size/\g≠R/\g<w.heap.size /\
 w.cell? ⟨g,off,none⟩=some (.int .i64 u.r)/\w.cell? ⟨g,off+1,none⟩=some (.int .i64 (u.p:Int))/\w.cell? ⟨g,off+3,none⟩=some (.bool u.bad)/\UniAt R w (.slice (some ⟨g,off,none⟩) (t.length+1) cap) (u::t):=by
 obtain ⟨uv,h0,h1,hf,hl,hsv,hu⟩:=h;have hu':=hu;obtain ⟨a,cap,rfl,hc,hi⟩:=hu;obtain ⟨g,off,rfl,hg,d0,d1,d3⟩:=hi 0 (by simp);exact ⟨g,off,cap,h1,by simpa using hc,hf,hl,by omega,by omega,by simpa using d0,by simpa using d1,by simpa using d3,hu'⟩
theorem Rd.nil {w:World} {R:Nat} {tv:Value} (h:Rd w R tv []) :∃a cap,w.cell? ⟨R,1,none⟩=some (.slice a 0 cap)/\w.cell? ⟨R,0,none⟩=some tv/\R<w.heap.size:=by
 obtain ⟨uv,h0,h1,hf,hl,hsv,hu⟩:=h;obtain ⟨a,cap,rfl,hc,hi⟩:=hu;exact ⟨a,cap,h1,h0,hl⟩
theorem Rd.text {w:World} {R:Nat} {tv:Value} {us:List U} (h:Rd w R tv us):w.cell? ⟨R,0,none⟩=some tv/\R<w.heap.size:=by
 obtain ⟨uv,h0,h1,hf,hl,hsv,hu⟩:=h;exact ⟨h0,hl⟩
theorem Rd.syn {w:World} {R:Nat} {tv:Value} {us:List U} (h:Rd w R tv us):SynV w/\7<R:=by
 obtain ⟨uv,h0,h1,hf,hl,hsv,hu⟩:=h;exact hsv
def leftN (w:World) (R:Nat):Nat:=match w.cell? ⟨R,1,none⟩ with
 | some (.slice _ n _)=>n
 | _=>0
theorem Rd.left {w:World} {R:Nat} {tv:Value} {us:List U} (h:Rd w R tv us):leftN w R=us.length:=by
 obtain ⟨uv,h0,h1,hf,hl,hsv,a,cap,rfl,hu⟩:=h;unfold leftN;rw [h1]
end Go.Proofs.YtfdjchnckjgapaaGreatDoor
namespace Go.Proofs.YtfdjchnckjgapaaGreatDoor
set_option maxHeartbeats 1000000
open Go.RowKit Go.Shelf S1
set_option linter.unusedVariables false
def RuleF (g:Nat) (p:Int->Bool):Prop:=∀(r:Int) (w:World),Calls Tryz.prog g #[.int .i64 r] w λe w'=>e = .returned (.bool (p r))/\w=w'
theorem beginsName_any:RuleF 76 nameB:=λr w=>by
 by_cases h1:97<=r
 · by_cases h2:r<=122
   · have e:nameB r=true:=by simp [nameB,h1,h2]
     rw [e];go_enter Tryz.func76,Tryz.ntmps76;go_wp2;go_ret;exact ⟨rfl,rfl⟩
   · have e:nameB r=false:=by simp [nameB,h1,h2]
     rw [e];have h2':decide (r<=122)=false:=by simpa using h2
     go_enter Tryz.func76,Tryz.ntmps76;go_wp2;go_ret;exact ⟨rfl,rfl⟩
 · have e:nameB r=false:=by simp [nameB,h1]
   rw [e];have h1':decide (97<=r)=false:=by simpa using h1
   go_enter Tryz.func76,Tryz.ntmps76;go_wp2;go_ret;exact ⟨rfl,rfl⟩
theorem isDecimal_any:RuleF 110 decB:=λr w=>by
 by_cases h1:48<=r
 · by_cases h2:r<=57
   · have e:decB r=true:=by simp [decB,h1,h2]
     rw [e];go_enter Tryz.func110,Tryz.ntmps110;go_wp2;go_ret;exact ⟨rfl,rfl⟩
   · have e:decB r=false:=by simp [decB,h1,h2]
     rw [e];have h2':decide (r<=57)=false:=by simpa using h2
     go_enter Tryz.func110,Tryz.ntmps110;go_wp2;go_ret;exact ⟨rfl,rfl⟩
 · have e:decB r=false:=by simp [decB,h1]
   rw [e];have h1':decide (48<=r)=false:=by simpa using h1
   go_enter Tryz.func110,Tryz.ntmps110;go_wp2;go_ret;exact ⟨rfl,rfl⟩
theorem isBlank_any:RuleF 71 blankR:=λr w=>by
 by_cases h32:r=32
 · subst h32;go_enter Tryz.func71,Tryz.ntmps71;go_wp2;go_ret;exact ⟨rfl,rfl⟩
 by_cases h9:r=9
 · subst h9;go_enter Tryz.func71,Tryz.ntmps71;go_wp2;go_ret;exact ⟨rfl,rfl⟩
 by_cases h13:r=13
 · subst h13;go_enter Tryz.func71,Tryz.ntmps71;go_wp2;go_ret;exact ⟨rfl,rfl⟩
 by_cases h10:r=10
 · subst h10;go_enter Tryz.func71,Tryz.ntmps71;go_wp2;go_ret;exact ⟨rfl,rfl⟩
 have k32:(r==32)=false:=by simpa using h32
 have k9:(r==9)=false:=by simpa using h9
 have k13:(r==13)=false:=by simpa using h13
 have k10:(r==10)=false:=by simpa using h10
 have e:blankR r=false:=by simp [blankR,h32,h9,h13,h10]
 rw [e];clear e h32 h9 h13 h10;go_enter Tryz.func71,Tryz.ntmps71;go_wp2;go_ret;exact ⟨rfl,rfl⟩
theorem isToken_any:RuleF 79 tokR:=λr w=>by
 by_cases h61:r=61
 · subst h61;go_enter Tryz.func79,Tryz.ntmps79;go_wp2;go_ret;exact ⟨rfl,rfl⟩
 by_cases h59:r=59
 · subst h59;go_enter Tryz.func79,Tryz.ntmps79;go_wp2;go_ret;exact ⟨rfl,rfl⟩
 by_cases h47:r=47
 · subst h47;go_enter Tryz.func79,Tryz.ntmps79;go_wp2;go_ret;exact ⟨rfl,rfl⟩
 by_cases h124:r=124
 · subst h124;go_enter Tryz.func79,Tryz.ntmps79;go_wp2;go_ret;exact ⟨rfl,rfl⟩
 by_cases h42:r=42
 · subst h42;go_enter Tryz.func79,Tryz.ntmps79;go_wp2;go_ret;exact ⟨rfl,rfl⟩
 by_cases h43:r=43
 · subst h43;go_enter Tryz.func79,Tryz.ntmps79;go_wp2;go_ret;exact ⟨rfl,rfl⟩
 by_cases h63:r=63
 · subst h63;go_enter Tryz.func79,Tryz.ntmps79;go_wp2;go_ret;exact ⟨rfl,rfl⟩
 by_cases h40:r=40
 · subst h40;go_enter Tryz.func79,Tryz.ntmps79;go_wp2;go_ret;exact ⟨rfl,rfl⟩
 by_cases h41:r=41
 · subst h41;go_enter Tryz.func79,Tryz.ntmps79;go_wp2;go_ret;exact ⟨rfl,rfl⟩
 by_cases h46:r=46
 · subst h46;go_enter Tryz.func79,Tryz.ntmps79;go_wp2;go_ret;exact ⟨rfl,rfl⟩
 by_cases h126:r=126
 · subst h126;go_enter Tryz.func79,Tryz.ntmps79;go_wp2;go_ret;exact ⟨rfl,rfl⟩
 by_cases h38:r=38
 · subst h38;go_enter Tryz.func79,Tryz.ntmps79;go_wp2;go_ret;exact ⟨rfl,rfl⟩
 by_cases h45:r=45
 · subst h45;go_enter Tryz.func79,Tryz.ntmps79;go_wp2;go_ret;exact ⟨rfl,rfl⟩
 have k61:(r==61)=false:=by simpa using h61
 have k59:(r==59)=false:=by simpa using h59
 have k47:(r==47)=false:=by simpa using h47
 have k124:(r==124)=false:=by simpa using h124
 have k42:(r==42)=false:=by simpa using h42
 have k43:(r==43)=false:=by simpa using h43
 have k63:(r==63)=false:=by simpa using h63
 have k40:(r==40)=false:=by simpa using h40
 have k41:(r==41)=false:=by simpa using h41
 have k46:(r==46)=false:=by simpa using h46
 have k126:(r==126)=false:=by simpa using h126
 have k38:(r==38)=false:=by simpa using h38
 have k45:(r==45)=false:=by simpa using h45
 have e:tokR r=false:=by simp [tokR,h61,h59,h47,h124,h42,h43,h63,h40,h41,h46,h126,h38,h45]
 rw [e];clear e h61 h59 h47 h124 h42 h43 h63 h40 h41 h46 h126 h38 h45;go_enter Tryz.func79,Tryz.ntmps79;go_wp2;go_ret;exact ⟨rfl,rfl⟩
theorem isGuarded_any:RuleF 175 guardR:=λr w=>by
 by_cases h91:r=91
 · subst h91;go_enter Tryz.func175,Tryz.ntmps175;go_wp2;go_ret;exact ⟨rfl,rfl⟩
 by_cases h93:r=93
 · subst h93;go_enter Tryz.func175,Tryz.ntmps175;go_wp2;go_ret;exact ⟨rfl,rfl⟩
 by_cases h45:r=45
 · subst h45;go_enter Tryz.func175,Tryz.ntmps175;go_wp2;go_ret;exact ⟨rfl,rfl⟩
 by_cases h92:r=92
 · subst h92;go_enter Tryz.func175,Tryz.ntmps175;go_wp2;go_ret;exact ⟨rfl,rfl⟩
 have k91:(r==91)=false:=by simpa using h91
 have k93:(r==93)=false:=by simpa using h93
 have k45:(r==45)=false:=by simpa using h45
 have k92:(r==92)=false:=by simpa using h92
 have e:guardR r=false:=by simp [guardR,h91,h93,h45,h92]
 rw [e];clear e h91 h93 h45 h92;go_enter Tryz.func175,Tryz.ntmps175;go_wp2;go_ret;exact ⟨rfl,rfl⟩
theorem isInNote_any:RuleF 74 noteR:=λr w=>by
 go_enter Tryz.func74,Tryz.ntmps74;go_wp2;go_ret;exact ⟨rfl,rfl⟩
theorem isInName_any:RuleF 77 nameR:=λr w=>by
 cases h1:nameB r with
 | true =>
  have e:nameR r=true:=by simp [nameR,h1]
  rw [e];have c1:=beginsName_any r w;rw [h1] at c1;go_enter Tryz.func77,Tryz.ntmps77
  go_wp2_with (go_at_call 76;refine c1.mono ?_;rintro e w' ⟨rfl,rfl⟩)
  go_ret;exact ⟨rfl,rfl⟩
 | false =>
  have c1:=beginsName_any r w;rw [h1] at c1;cases h2:decB r with
  | true =>
   have e:nameR r=true:=by simp [nameR,h2]
   rw [e];have c2:=isDecimal_any r w;rw [h2] at c2;go_enter Tryz.func77,Tryz.ntmps77
   go_wp2_with (first | (go_at_call 76;refine c1.mono ?_;rintro e w' ⟨rfl,rfl⟩) | (go_at_call 110;refine c2.mono ?_;rintro e w' ⟨rfl,rfl⟩))
   go_ret;exact ⟨rfl,rfl⟩
  | false =>
   have e:nameR r=(r==95):=by simp [nameR,h1,h2]
   rw [e];have c2:=isDecimal_any r w;rw [h2] at c2;go_enter Tryz.func77,Tryz.ntmps77
   go_wp2_with (first | (go_at_call 76;refine c1.mono ?_;rintro e w' ⟨rfl,rfl⟩) | (go_at_call 110;refine c2.mono ?_;rintro e w' ⟨rfl,rfl⟩))
   go_ret;exact ⟨rfl,rfl⟩
theorem isFigure_any:RuleF 202 figR:=λr w=>by
 cases h1:decB r with
 | true =>
  have e:figR r=true:=by simp [figR,h1]
  rw [e];have c1:=isDecimal_any r w;rw [h1] at c1;go_enter Tryz.func202,Tryz.ntmps202
  go_wp2_with (go_at_call 110;refine c1.mono ?_;rintro e w' ⟨rfl,rfl⟩)
  go_ret;exact ⟨rfl,rfl⟩
 | false =>
  have c1:=isDecimal_any r w;rw [h1] at c1;by_cases h2:65<=r
  · have e:figR r=decide (r<=70):=by simp [figR,h1,h2]
    rw [e];go_enter Tryz.func202,Tryz.ntmps202
    go_wp2_with (go_at_call 110;refine c1.mono ?_;rintro e w' ⟨rfl,rfl⟩)
    go_ret;exact ⟨rfl,rfl⟩
  · have e:figR r=false:=by simp [figR,h1,h2]
    rw [e];have h2':decide (65<=r)=false:=by simpa using h2
    go_enter Tryz.func202,Tryz.ntmps202
    go_wp2_with (go_at_call 110;refine c1.mono ?_;rintro e w' ⟨rfl,rfl⟩)
    go_ret;exact ⟨rfl,rfl⟩
theorem isPlain_any:RuleF 174 plainR:=λr w=>by
 by_cases h1:32<=r
 · have c1:=isGuarded_any r w;have e:plainR r = !guardR r:=by simp [plainR,h1]
   rw [e];cases h2:guardR r with
   | true =>
    rw [h2] at c1;go_enter Tryz.func174,Tryz.ntmps174
    go_wp2_with (go_at_call 175;refine c1.mono ?_;rintro e w' ⟨rfl,rfl⟩)
    go_ret;exact ⟨rfl,rfl⟩
   | false =>
    rw [h2] at c1;go_enter Tryz.func174,Tryz.ntmps174
    go_wp2_with (go_at_call 175;refine c1.mono ?_;rintro e w' ⟨rfl,rfl⟩)
    go_ret;exact ⟨rfl,rfl⟩
 · have e:plainR r=false:=by simp [plainR,h1]
   rw [e];have h1':decide (32<=r)=false:=by simpa using h1
   go_enter Tryz.func174,Tryz.ntmps174;go_wp2;go_ret;exact ⟨rfl,rfl⟩
theorem is_any (c:Int) (w:World):Calls Tryz.prog 72 #[.int .i64 c] w λe w'=>e = .returned (.func (.func 109) #[] #[.pointer (some ⟨w.heap.size,0,none⟩)])/\w.alloc (.cells #[.int .i64 c] 3)=w':=by
 go_enter Tryz.func72,Tryz.ntmps72;go_wp2;go_ret;exact ⟨rfl,rfl⟩
theorem is1_any (c r:Int) (B:Nat) (w:World) (hc:w.cell? ⟨B,0,none⟩=some (.int .i64 c)):Calls Tryz.prog 109 #[.int .i64 r,.pointer (some ⟨B,0,none⟩)] w λe w'=>e = .returned (.bool (isC c r))/\w=w':=by
 go_enter Tryz.func109,Tryz.ntmps109;go_wp2;go_ret;exact ⟨rfl,rfl⟩
set_option maxHeartbeats 2000000
set_option maxRecDepth 100000
theorem at_any (us:List U) (R:Nat) (a:Option Addr) (n cap:Nat) (w:World) (hrd:Rd w R (.slice a n cap) us) :
 Calls Tryz.prog 75 #[.pointer (some ⟨R,0,none⟩)] w λe w'=>e = .returned (.int .i64 (atL n us:Int))/\w=w':=by
 match us,hrd with
 | [],hrd =>
  obtain ⟨ua,uc,h1,h0,hl⟩:=hrd.nil;go_enter Tryz.func75,Tryz.ntmps75;go_wp2;go_ret;exact ⟨rfl,rfl⟩
 | u::t,hrd =>
  obtain ⟨g,off,uc,h1,hc,hf,hl,hne,hgl,c0,c1,c3,hu⟩:=hrd.cons;have hz:((t.length:Int)+1==0)=false:=by simp;omega
  go_enter Tryz.func75,Tryz.ntmps75;go_wp2;go_ret;exact ⟨rfl,rfl⟩
theorem sign0_t (g:Nat) (eg:∀args w,(callFunc g args).run Tryz.prog w = .ok (.enter g args) w) (w w1:World) (R:Nat) (tv:Value) (u:U) (t:List U) (hb:u.bad=false) (hrd:Rd w R tv (u::t)) (hrd1:Rd w1 R tv (u::t))
 (hcall:Calls Tryz.prog g #[.int .i64 u.r] w λe w'=>e = .returned (.bool true)/\w1=w') :
 Calls Tryz.prog 108 #[.pointer (some ⟨R,0,none⟩),.func (.func g) #[] #[]] w λe w'=>e = .returned (.tuple #[.int .i64 u.r,.bool true])/\Rd w' R tv t/\w1.grownBy w' (some R):=by
 have HC:Hid (Calls Tryz.prog g #[.int .i64 u.r] w λe w'=>e = .returned (.bool true)/\w1=w'):=hcall;have H1:Hid (Rd w1 R tv (u::t)):=hrd1;obtain ⟨gu,off,uc,h1,hc,hf,hl,hne,hgl,c0,c1,c3,hu⟩:=hrd.cons;obtain ⟨gu',off',uc',h1',hc',hf',hl',hne',hgl',c0',c1',c3',hu'⟩:=hrd1.cons;rw [hb] at c3 c3';have HU:Hid (UniAt R w1 (.slice (some ⟨gu',off',none⟩) (t.length+1) uc') (u::t)):=hu';have hz:((t.length:Int)+1==0)=false:=by simp;omega
 clear hcall hrd hrd1 hu hu' c1 c1' c3';go_enter Tryz.func108,Tryz.ntmps108
 go_wp2_with fail
 refine HC.out.mono ?_;rintro e w' ⟨rfl,rfl⟩;go_wp2
 all_goals
  go_ret2
  refine ⟨rfl,Rd.took H1.out _ ?_,grownR_set _ _ _ _⟩;refine HU.out.tail' _ _ ?_;intro q
  first | exact ⟨rfl,rfl⟩ | omega
theorem sign0_f (g:Nat) (eg:∀args w,(callFunc g args).run Tryz.prog w = .ok (.enter g args) w) (w w1:World) (R:Nat) (tv:Value) (u:U) (t:List U) (hb:u.bad=false) (hrd:Rd w R tv (u::t)) (hrd1:Rd w1 R tv (u::t))
 (hcall:Calls Tryz.prog g #[.int .i64 u.r] w λe w'=>e = .returned (.bool false)/\w1=w') :
 Calls Tryz.prog 108 #[.pointer (some ⟨R,0,none⟩),.func (.func g) #[] #[]] w λe w'=>e = .returned (.tuple #[.int .i64 0,.bool false])/\w1=w':=by
 have HC:Hid (Calls Tryz.prog g #[.int .i64 u.r] w λe w'=>e = .returned (.bool false)/\w1=w'):=hcall;have H1:Hid (Rd w1 R tv (u::t)):=hrd1;obtain ⟨gu,off,uc,h1,hc,hf,hl,hne,hgl,c0,c1,c3,hu⟩:=hrd.cons;obtain ⟨gu',off',uc',h1',hc',hf',hl',hne',hgl',c0',c1',c3',hu'⟩:=hrd1.cons;rw [hb] at c3 c3';have HU:Hid (UniAt R w1 (.slice (some ⟨gu',off',none⟩) (t.length+1) uc') (u::t)):=hu';have hz:((t.length:Int)+1==0)=false:=by simp;omega
 clear hcall hrd hrd1 hu hu' c1 c1' c3';go_enter Tryz.func108,Tryz.ntmps108
 go_wp2_with fail
 refine HC.out.mono ?_;rintro e w' ⟨rfl,rfl⟩;go_wp2
 go_ret2
 exact ⟨rfl,rfl⟩
theorem sign0_n (g:Nat) (w:World) (R:Nat) (tv:Value) (us:List U) (hb:us=[]\/∃u t,us=u::t/\u.bad=true) (hrd:Rd w R tv us) :
 Calls Tryz.prog 108 #[.pointer (some ⟨R,0,none⟩),.func (.func g) #[] #[]] w λe w'=>e = .returned (.tuple #[.int .i64 0,.bool false])/\w=w':=by
 rcases hb with rfl | ⟨u,t,rfl,hb⟩
 · obtain ⟨ua,uc,h1,h0,hl⟩:=hrd.nil;go_enter Tryz.func108,Tryz.ntmps108
   go_wp2_with fail
   go_ret2
   exact ⟨rfl,rfl⟩
 · obtain ⟨gu,off,uc,h1,hc,hf,hl,hne,hgl,c0,c1,c3,hu⟩:=hrd.cons;rw [hb] at c3;have hz:((t.length:Int)+1==0)=false:=by simp;omega
   go_enter Tryz.func108,Tryz.ntmps108
   go_wp2_with fail
   go_ret2
   exact ⟨rfl,rfl⟩
theorem sign1_t (B:Nat) (g:Nat) (eg:∀args w,(callFunc g args).run Tryz.prog w = .ok (.enter g args) w) (w w1:World) (R:Nat) (tv:Value) (u:U) (t:List U) (hb:u.bad=false) (hrd:Rd w R tv (u::t)) (hrd1:Rd w1 R tv (u::t))
 (hcall:Calls Tryz.prog g #[.int .i64 u.r,.pointer (some ⟨B,0,none⟩)] w λe w'=>e = .returned (.bool true)/\w1=w') :
 Calls Tryz.prog 108 #[.pointer (some ⟨R,0,none⟩),.func (.func g) #[] #[.pointer (some ⟨B,0,none⟩)]] w λe w'=>e = .returned (.tuple #[.int .i64 u.r,.bool true])/\Rd w' R tv t/\w1.grownBy w' (some R):=by
 have HC:Hid (Calls Tryz.prog g #[.int .i64 u.r,.pointer (some ⟨B,0,none⟩)] w λe w'=>e = .returned (.bool true)/\w1=w'):=hcall;have H1:Hid (Rd w1 R tv (u::t)):=hrd1;obtain ⟨gu,off,uc,h1,hc,hf,hl,hne,hgl,c0,c1,c3,hu⟩:=hrd.cons;obtain ⟨gu',off',uc',h1',hc',hf',hl',hne',hgl',c0',c1',c3',hu'⟩:=hrd1.cons;rw [hb] at c3 c3';have HU:Hid (UniAt R w1 (.slice (some ⟨gu',off',none⟩) (t.length+1) uc') (u::t)):=hu';have hz:((t.length:Int)+1==0)=false:=by simp;omega
 clear hcall hrd hrd1 hu hu' c1 c1' c3';go_enter Tryz.func108,Tryz.ntmps108
 go_wp2_with fail
 refine HC.out.mono ?_;rintro e w' ⟨rfl,rfl⟩;go_wp2
 all_goals
  go_ret2
  refine ⟨rfl,Rd.took H1.out _ ?_,grownR_set _ _ _ _⟩;refine HU.out.tail' _ _ ?_;intro q
  first | exact ⟨rfl,rfl⟩ | omega
theorem sign1_f (B:Nat) (g:Nat) (eg:∀args w,(callFunc g args).run Tryz.prog w = .ok (.enter g args) w) (w w1:World) (R:Nat) (tv:Value) (u:U) (t:List U) (hb:u.bad=false) (hrd:Rd w R tv (u::t)) (hrd1:Rd w1 R tv (u::t))
 (hcall:Calls Tryz.prog g #[.int .i64 u.r,.pointer (some ⟨B,0,none⟩)] w λe w'=>e = .returned (.bool false)/\w1=w') :
 Calls Tryz.prog 108 #[.pointer (some ⟨R,0,none⟩),.func (.func g) #[] #[.pointer (some ⟨B,0,none⟩)]] w λe w'=>e = .returned (.tuple #[.int .i64 0,.bool false])/\w1=w':=by
 have HC:Hid (Calls Tryz.prog g #[.int .i64 u.r,.pointer (some ⟨B,0,none⟩)] w λe w'=>e = .returned (.bool false)/\w1=w'):=hcall;have H1:Hid (Rd w1 R tv (u::t)):=hrd1;obtain ⟨gu,off,uc,h1,hc,hf,hl,hne,hgl,c0,c1,c3,hu⟩:=hrd.cons;obtain ⟨gu',off',uc',h1',hc',hf',hl',hne',hgl',c0',c1',c3',hu'⟩:=hrd1.cons;rw [hb] at c3 c3';have HU:Hid (UniAt R w1 (.slice (some ⟨gu',off',none⟩) (t.length+1) uc') (u::t)):=hu';have hz:((t.length:Int)+1==0)=false:=by simp;omega
 clear hcall hrd hrd1 hu hu' c1 c1' c3';go_enter Tryz.func108,Tryz.ntmps108
 go_wp2_with fail
 refine HC.out.mono ?_;rintro e w' ⟨rfl,rfl⟩;go_wp2
 go_ret2
 exact ⟨rfl,rfl⟩
theorem sign1_n (B:Nat) (g:Nat) (w:World) (R:Nat) (tv:Value) (us:List U) (hb:us=[]\/∃u t,us=u::t/\u.bad=true) (hrd:Rd w R tv us) :
 Calls Tryz.prog 108 #[.pointer (some ⟨R,0,none⟩),.func (.func g) #[] #[.pointer (some ⟨B,0,none⟩)]] w λe w'=>e = .returned (.tuple #[.int .i64 0,.bool false])/\w=w':=by
 rcases hb with rfl | ⟨u,t,rfl,hb⟩
 · obtain ⟨ua,uc,h1,h0,hl⟩:=hrd.nil;go_enter Tryz.func108,Tryz.ntmps108
   go_wp2_with fail
   go_ret2
   exact ⟨rfl,rfl⟩
 · obtain ⟨gu,off,uc,h1,hc,hf,hl,hne,hgl,c0,c1,c3,hu⟩:=hrd.cons;rw [hb] at c3;have hz:((t.length:Int)+1==0)=false:=by simp;omega
   go_enter Tryz.func108,Tryz.ntmps108
   go_wp2_with fail
   go_ret2
   exact ⟨rfl,rfl⟩
theorem sign2_t (B C:Nat) (g:Nat) (eg:∀args w,(callFunc g args).run Tryz.prog w = .ok (.enter g args) w) (w w1:World) (R:Nat) (tv:Value) (u:U) (t:List U) (hb:u.bad=false) (hrd:Rd w R tv (u::t)) (hrd1:Rd w1 R tv (u::t))
 (hcall:Calls Tryz.prog g #[.int .i64 u.r,.pointer (some ⟨B,0,none⟩),.pointer (some ⟨C,0,none⟩)] w λe w'=>e = .returned (.bool true)/\w1=w') :
 Calls Tryz.prog 108 #[.pointer (some ⟨R,0,none⟩),.func (.func g) #[] #[.pointer (some ⟨B,0,none⟩),.pointer (some ⟨C,0,none⟩)]] w λe w'=>e = .returned (.tuple #[.int .i64 u.r,.bool true])/\Rd w' R tv t/\w1.grownBy w' (some R):=by
 have HC:Hid (Calls Tryz.prog g #[.int .i64 u.r,.pointer (some ⟨B,0,none⟩),.pointer (some ⟨C,0,none⟩)] w λe w'=>e = .returned (.bool true)/\w1=w'):=hcall;have H1:Hid (Rd w1 R tv (u::t)):=hrd1;obtain ⟨gu,off,uc,h1,hc,hf,hl,hne,hgl,c0,c1,c3,hu⟩:=hrd.cons;obtain ⟨gu',off',uc',h1',hc',hf',hl',hne',hgl',c0',c1',c3',hu'⟩:=hrd1.cons;rw [hb] at c3 c3';have HU:Hid (UniAt R w1 (.slice (some ⟨gu',off',none⟩) (t.length+1) uc') (u::t)):=hu';have hz:((t.length:Int)+1==0)=false:=by simp;omega
 clear hcall hrd hrd1 hu hu' c1 c1' c3';go_enter Tryz.func108,Tryz.ntmps108
 go_wp2_with fail
 refine HC.out.mono ?_;rintro e w' ⟨rfl,rfl⟩;go_wp2
 all_goals
  go_ret2
  refine ⟨rfl,Rd.took H1.out _ ?_,grownR_set _ _ _ _⟩;refine HU.out.tail' _ _ ?_;intro q
  first | exact ⟨rfl,rfl⟩ | omega
theorem sign2_f (B C:Nat) (g:Nat) (eg:∀args w,(callFunc g args).run Tryz.prog w = .ok (.enter g args) w) (w w1:World) (R:Nat) (tv:Value) (u:U) (t:List U) (hb:u.bad=false) (hrd:Rd w R tv (u::t)) (hrd1:Rd w1 R tv (u::t))
 (hcall:Calls Tryz.prog g #[.int .i64 u.r,.pointer (some ⟨B,0,none⟩),.pointer (some ⟨C,0,none⟩)] w λe w'=>e = .returned (.bool false)/\w1=w') :
 Calls Tryz.prog 108 #[.pointer (some ⟨R,0,none⟩),.func (.func g) #[] #[.pointer (some ⟨B,0,none⟩),.pointer (some ⟨C,0,none⟩)]] w λe w'=>e = .returned (.tuple #[.int .i64 0,.bool false])/\w1=w':=by
 have HC:Hid (Calls Tryz.prog g #[.int .i64 u.r,.pointer (some ⟨B,0,none⟩),.pointer (some ⟨C,0,none⟩)] w λe w'=>e = .returned (.bool false)/\w1=w'):=hcall;have H1:Hid (Rd w1 R tv (u::t)):=hrd1;obtain ⟨gu,off,uc,h1,hc,hf,hl,hne,hgl,c0,c1,c3,hu⟩:=hrd.cons;obtain ⟨gu',off',uc',h1',hc',hf',hl',hne',hgl',c0',c1',c3',hu'⟩:=hrd1.cons;rw [hb] at c3 c3';have HU:Hid (UniAt R w1 (.slice (some ⟨gu',off',none⟩) (t.length+1) uc') (u::t)):=hu';have hz:((t.length:Int)+1==0)=false:=by simp;omega
 clear hcall hrd hrd1 hu hu' c1 c1' c3';go_enter Tryz.func108,Tryz.ntmps108
 go_wp2_with fail
 refine HC.out.mono ?_;rintro e w' ⟨rfl,rfl⟩;go_wp2
 go_ret2
 exact ⟨rfl,rfl⟩
theorem sign2_n (B C:Nat) (g:Nat) (w:World) (R:Nat) (tv:Value) (us:List U) (hb:us=[]\/∃u t,us=u::t/\u.bad=true) (hrd:Rd w R tv us) :
 Calls Tryz.prog 108 #[.pointer (some ⟨R,0,none⟩),.func (.func g) #[] #[.pointer (some ⟨B,0,none⟩),.pointer (some ⟨C,0,none⟩)]] w λe w'=>e = .returned (.tuple #[.int .i64 0,.bool false])/\w=w':=by
 rcases hb with rfl | ⟨u,t,rfl,hb⟩
 · obtain ⟨ua,uc,h1,h0,hl⟩:=hrd.nil;go_enter Tryz.func108,Tryz.ntmps108
   go_wp2_with fail
   go_ret2
   exact ⟨rfl,rfl⟩
 · obtain ⟨gu,off,uc,h1,hc,hf,hl,hne,hgl,c0,c1,c3,hu⟩:=hrd.cons;rw [hb] at c3;have hz:((t.length:Int)+1==0)=false:=by simp;omega
   go_enter Tryz.func108,Tryz.ntmps108
   go_wp2_with fail
   go_ret2
   exact ⟨rfl,rfl⟩
theorem sign0_any (g:Nat) (p:Int->Bool) (hg:RuleF g p) (eg:∀args w,(callFunc g args).run Tryz.prog w = .ok (.enter g args) w) (w:World) (R:Nat) (tv:Value) (us:List U) (hrd:Rd w R tv us) :
 Calls Tryz.prog 108 #[.pointer (some ⟨R,0,none⟩),.func (.func g) #[] #[]] w λe w'=>e = .returned (.tuple #[.int .i64 ((sgn p us).1.getD 0),.bool (sgn p us).1.isSome])/\Rd w' R tv (sgn p us).2/\w.grownBy w' (some R):=by
 match us,hrd with
 | [],hrd=>exact (sign0_n _ w R tv [] (.inl rfl) hrd).mono λe w' ⟨he,hw⟩=>⟨he,by rw [<- hw];exact hrd,by rw [<- hw];exact World.grownBy.refl _ _⟩
 | u::t,hrd =>
  cases hb:u.bad with
  | true =>
   have es:sgn p (u::t)=(none,u::t):=by rw [sgn_cons,if_neg (by simp [fitU,hb])]
   rw [es];exact (sign0_n _ w R tv (u::t) (.inr ⟨u,t,rfl,hb⟩) hrd).mono λe w' ⟨he,hw⟩=>⟨he,by rw [<- hw];exact hrd,by rw [<- hw];exact World.grownBy.refl _ _⟩
  | false =>
   have hc:=hg u.r w;cases hq:p u.r with
   | true =>
    rw [hq] at hc;have es:sgn p (u::t)=(some u.r,t):=by rw [sgn_cons,if_pos (by simp [fitU,hb,hq])]
    rw [es];exact sign0_t g eg w w R tv u t hb hrd hrd hc
   | false =>
    rw [hq] at hc;have es:sgn p (u::t)=(none,u::t):=by rw [sgn_cons,if_neg (by simp [fitU,hb,hq])]
    rw [es];exact (sign0_f g eg w w R tv u t hb hrd hrd hc).mono λe w' ⟨he,hw⟩=>⟨he,by rw [<- hw];exact hrd,by rw [<- hw];exact World.grownBy.refl _ _⟩
theorem take0_any (g:Nat) (p:Int->Bool) (hg:RuleF g p) (eg:∀args w,(callFunc g args).run Tryz.prog w = .ok (.enter g args) w) (w:World) (R:Nat) (tv:Value) (us:List U) (hrd:Rd w R tv us) :
 Calls Tryz.prog 70 #[.pointer (some ⟨R,0,none⟩),.func (.func g) #[] #[]] w λe w'=>e = .returned (.bool (sgn p us).1.isSome)/\Rd w' R tv (sgn p us).2/\w.grownBy w' (some R):=by
 have HS:=sign0_any g p hg eg w R tv us hrd;obtain ⟨x,hx⟩ :∃x:Int,x=(sgn p us).1.getD 0:=⟨_,rfl⟩;obtain ⟨b,hb⟩ :∃b:Bool,b=(sgn p us).1.isSome:=⟨_,rfl⟩;rw [<- hx,<- hb] at HS;rw [<- hb];clear hx hb;go_enter Tryz.func70,Tryz.ntmps70
 go_wp2_with fail
 refine HS.mono ?_;rintro e w' ⟨rfl,hr,hw⟩;go_wp2;go_ret;exact ⟨rfl,hr,hw⟩
theorem sign1_any (B:Nat) (c:Int) (w:World) (R:Nat) (tv:Value) (us:List U) (hrd:Rd w R tv us) (hB:w.cell? ⟨B,0,none⟩=some (.int .i64 c)) :
 Calls Tryz.prog 108 #[.pointer (some ⟨R,0,none⟩),.func (.func 109) #[] #[.pointer (some ⟨B,0,none⟩)]] w λe w'=>e = .returned (.tuple #[.int .i64 ((sgn (isC c) us).1.getD 0),.bool (sgn (isC c) us).1.isSome])/\Rd w' R tv (sgn (isC c) us).2/\w.grownBy w' (some R):=by
 match us,hrd with
 | [],hrd=>exact (sign1_n B _ w R tv [] (.inl rfl) hrd).mono λe w' ⟨he,hw⟩=>⟨he,by rw [<- hw];exact hrd,by rw [<- hw];exact World.grownBy.refl _ _⟩
 | u::t,hrd =>
  cases hb:u.bad with
  | true =>
   have es:sgn (isC c) (u::t)=(none,u::t):=by rw [sgn_cons,if_neg (by simp [fitU,hb])]
   rw [es];exact (sign1_n B _ w R tv (u::t) (.inr ⟨u,t,rfl,hb⟩) hrd).mono λe w' ⟨he,hw⟩=>⟨he,by rw [<- hw];exact hrd,by rw [<- hw];exact World.grownBy.refl _ _⟩
  | false =>
   have hc:=is1_any c u.r B w hB;cases hq:(isC c) u.r with
   | true =>
    rw [hq] at hc;have es:sgn (isC c) (u::t)=(some u.r,t):=by rw [sgn_cons,if_pos (by simp [fitU,hb,hq])]
    rw [es];exact sign1_t B 109 (enters_of Tryz.func109 (by kernel_rfl) rfl) w w R tv u t hb hrd hrd hc
   | false =>
    rw [hq] at hc;have es:sgn (isC c) (u::t)=(none,u::t):=by rw [sgn_cons,if_neg (by simp [fitU,hb,hq])]
    rw [es];exact (sign1_f B 109 (enters_of Tryz.func109 (by kernel_rfl) rfl) w w R tv u t hb hrd hrd hc).mono λe w' ⟨he,hw⟩=>⟨he,by rw [<- hw];exact hrd,by rw [<- hw];exact World.grownBy.refl _ _⟩
theorem take1_any (B:Nat) (c:Int) (w:World) (R:Nat) (tv:Value) (us:List U) (hrd:Rd w R tv us) (hB:w.cell? ⟨B,0,none⟩=some (.int .i64 c)) :
 Calls Tryz.prog 70 #[.pointer (some ⟨R,0,none⟩),.func (.func 109) #[] #[.pointer (some ⟨B,0,none⟩)]] w λe w'=>e = .returned (.bool (sgn (isC c) us).1.isSome)/\Rd w' R tv (sgn (isC c) us).2/\w.grownBy w' (some R):=by
 have HS:=sign1_any B c w R tv us hrd hB;obtain ⟨x,hx⟩ :∃x:Int,x=(sgn (isC c) us).1.getD 0:=⟨_,rfl⟩;obtain ⟨b,hb⟩ :∃b:Bool,b=(sgn (isC c) us).1.isSome:=⟨_,rfl⟩;rw [<- hx,<- hb] at HS;rw [<- hb];clear hx hb;go_enter Tryz.func70,Tryz.ntmps70
 go_wp2_with fail
 refine HS.mono ?_;rintro e w' ⟨rfl,hr,hw⟩;go_wp2;go_ret;exact ⟨rfl,hr,hw⟩
theorem sgn_drop (p:Int->Bool) (us:List U):((sgn p us).1.isSome=true->(sgn p us).2.dropWhile (fitU p)=us.dropWhile (fitU p)/\(sgn p us).2.length+1=us.length)/\((sgn p us).1.isSome=false->us.dropWhile (fitU p)=us/\(sgn p us).2=us):=by
 cases us with
 | nil =>
  refine ⟨λh => ?_,λ_=>⟨rfl,rfl⟩⟩;cases h
 | cons u t =>
  rw [sgn_cons];by_cases q:fitU p u=true
  · rw [if_pos q];refine ⟨λ_=>⟨?_,rfl⟩,λh => ?_⟩
    · simp [q]
    · cases h
  · rw [if_neg q];refine ⟨λh => ?_,λ_=>⟨?_,rfl⟩⟩
    · cases h
    · simp [q]
theorem takeAll_any (g:Nat) (p:Int->Bool) (hg:RuleF g p) (eg:∀args w,(callFunc g args).run Tryz.prog w = .ok (.enter g args) w) (w:World) (R:Nat) (tv:Value) (us:List U) (hrd:Rd w R tv us) :
 Calls Tryz.prog 73 #[.pointer (some ⟨R,0,none⟩),.func (.func g) #[] #[]] w λe w'=>e = .returned (.tuple #[])/\Rd w' R tv (us.dropWhile (fitU p))/\w.grownBy w' (some R):=by
 have HG:Hid (RuleF g p):=hg;clear hg;go_enter Tryz.func73,Tryz.ntmps73;go_wp2
 go_loopw [] (λwr=>∃vs:List U,vs.dropWhile (fitU p)=us.dropWhile (fitU p)/\Rd wr R tv vs/\w.grownBy wr (some R)) (λwr=>leftN wr R)
 case atStart=>exact ⟨us,rfl,hrd,World.grownBy.refl _ _⟩
 case round =>
  obtain ⟨vs,hd,hr,hw⟩:=hrel;have HD:Hid (vs.dropWhile (fitU p)=us.dropWhile (fitU p)):=hd;have hm:=take0_any g p HG.out eg wr R tv vs hr;have hl0:=hr.left;have hsd:=sgn_drop p vs;cases hq:(sgn p vs).1.isSome with
  | true =>
   rw [hq] at hm;obtain ⟨e1,e2⟩:=hsd.1 hq;have HE:Hid ((sgn p vs).2.dropWhile (fitU p)=vs.dropWhile (fitU p)):=e1;have HL:Hid ((sgn p vs).2.length+1=vs.length):=e2;clear hsd hd e1 e2 hq
   go_wp2_with fail
   refine hm.mono ?_;rintro e w' ⟨rfl,hr2,hw2⟩;go_wp2
   go_roundw
   case rel=>exact ⟨_,HE.out.trans HD.out,hr2,hw.trans hw2⟩
   case measure=>rw [hr2.left,hl0];have:=HL.out;omega
  | false =>
   rw [hq] at hm;obtain ⟨e1,e2⟩:=hsd.2 hq;have HE:Hid (vs=us.dropWhile (fitU p)):=e1.symm.trans hd;rw [e2] at hm;clear hsd hd e1 e2 hq
   go_wp2_with fail
   refine hm.mono ?_;rintro e w' ⟨rfl,hr2,hw2⟩;go_wp2
   go_end0
   exact ⟨rfl,by rw [<- HE.out];exact hr2,hw.trans hw2⟩
end Go.Proofs.YtfdjchnckjgapaaGreatDoor
