/-
  Pick Ref2
-/
import Derived.Test.YtfdjchnckjgapaaGreatDoorZ23
import Derived.Test.YtfdjchnckjgapaaGreatDoorZ14
import Derived.BigQuiet
namespace Go.Proofs.YtfdjchnckjgapaaGreatDoor
set_option maxHeartbeats 8000000
set_option maxRecDepth 100000
open Go.RowKit
set_option linter.unusedVariables false
theorem pickGo_step {f:Int->Bool} {es:List Int} {k:Nat} (h:k<es.length) (out:List Rg) (hi:Int) (hhi:(∃h1:k+1<es.length,hi=es[k+1]-1)\/(k+1=es.length/\hi=1114111)) :
 pickGo f (es.drop k) out=pickGo f (es.drop (k+1)) (if f es[k]=true then withL out es[k] hi else out):=by
 rw [List.drop_eq_getElem_cons h];rcases hhi with ⟨h1,rfl⟩ | ⟨h1,rfl⟩
 · rw [List.drop_eq_getElem_cons h1];rfl
 · have e:es.drop (k+1)=[]:=List.drop_eq_nil_of_le (by omega);rw [e];rfl
theorem withL_length (l:List Rg) (lo hi:Int):(withL l lo hi).length<=l.length+1:=by
 rcases list_last l with rfl | ⟨ini,s,rfl⟩
 · simp [withL_nil]
 · by_cases q:s.hi=lo-1
   · rw [withL_join q];simp
   · rw [withL_snoc q];simp
theorem own_mono' {w:World} {b c e size n:Nat} {v:Value} {xs:List Value} (h:w.ownsRow b e size v n xs) (hc:c<=b):w.ownsRow c e size v n xs:=by
 refine ⟨h.1,?_⟩;rcases h.2 with q | ⟨g,cap,cur,rfl,hb,r⟩
 · exact .inl q
 · exact .inr ⟨g,cap,cur,rfl,by omega,r⟩
def KindIs (kind:Int) (g:Bool->Bool->Bool):Prop :=
 (kind=0/\g=λx y=>x||y)\/(kind=1/\g=λx y=>x&&y)\/(kind=2/\g=λx y=>x && !y)\/(kind=3/\g=λx y => !x && !y)
theorem pick_any (kind:Int) (g:Bool->Bool->Bool) (hk:KindIs kind g) (a b:List Rg) (ha:a.length<=20000) (hb:b.length<=20000) (fa:Fits a) (fb:Fits b) (va vb:Value) (w:World) (hva:RngSrc w va a) (hvb:RngSrc w vb b) :
 Calls Tryz.prog 105 #[va,vb,.int .i64 kind] w λe w'=>∃l v,e = .returned v/\Upto (λx=>g (hasR a x) (hasR b x)) l 1114112/\w'.ownsRow w.heap.size 94 2 v l.length (cellsRs l)/\Below w.heap.size w w':=by
 have HVA:Hid (RngSrc w va a):=hva;have HVB:Hid (RngSrc w vb b):=hvb;obtain ⟨ada,ca,rfl,_,_⟩:=hva.1;obtain ⟨adb,cb,rfl,_,_⟩:=hvb.1;have HSP:Hid (Upto (λx=>g (hasR a x) (hasR b x)) (pickGo (λx=>g (hasR a x) (hasR b x)) (edgesL (a++b)) []) 1114112):=pick_spec a b fa fb g;have HLE:Hid ((edgesL (a++b)).length<=80001):=by
  have:=edges_length (a++b) [0];show (List.foldl stepE [0] (a++b)).length<=80001;simp only [List.length_append,List.length_cons,List.length_nil] at this;omega
 have HEB:Hid (∀x∈edgesL (a++b),0<=x/\x<=1114111):=λx hx=>by
  have hfit:Fits (a++b):=λr hr=>(List.mem_append.1 hr).elim (fa r) (fb r);rcases ((edges_facts (a++b) [0] trivial).2 x).1 hx with q | ⟨r,hr,q | ⟨q,q2⟩⟩
  · have:x=0:=by simpa using q
    omega
  · have:=hfit r hr;omega
  · have:=hfit r hr;omega
 have HED:=edges_any a b ha hb fa fb _ _ w HVA.out HVB.out;obtain ⟨es,hes⟩ :∃es,edgesL (a++b)=es:=⟨_,rfl⟩;rw [hes] at HSP HLE HEB HED;have hel:=HLE.out;have HK:Hid (KindIs kind g):=hk;obtain ⟨f,hf⟩ :∃f:Int->Bool,(λx=>g (hasR a x) (hasR b x))=f:=⟨_,rfl⟩;rw [hf] at HSP ⊢;have HF:Hid (∀x,f x=g (hasR a x) (hasR b x)):=λx=>by rw [<- hf]
 clear hes hva hvb fa fb hk hf;go_enter Tryz.func105,Tryz.ntmps105
 go_wp2_with fail
 refine HED.mono ?_;rintro e w1 ⟨v1,rfl,hi1,hB1⟩;have hs1:=hB1.size;have HVA1:Hid (RngAt w1.heap.size w1 _ a):=HVA.out.1.below hB1;have HVB1:Hid (RngAt w1.heap.size w1 _ b):=HVB.out.1.below hB1;obtain ⟨ad1,c1,rfl,_,hcell⟩:=hi1;have HA:Hid (∀i,(h:i<es.length)->∃g off,ad1=some ⟨g,off,none⟩/\g<w1.heap.size/\w1.cell? ⟨g,off+i,none⟩=some (.int .i64 es[i])):=hcell;clear hcell HED HVA HVB HLE;go_wp2
 go_loopw [8,9] (λy x wr=>∃(k:Nat) (out:List Rg),k<=es.length/\x = .int .i64 k/\pickGo f (es.drop k) out=pickGo f es []/\out.length<=k/\wr.ownsRow w1.heap.size 94 2 y out.length (cellsRs out)/\Below w1.heap.size w1 wr) (λ_ x _=>es.length-(intOf x).toNat)
 case atStart=>exact ⟨0,[],Nat.zero_le _,rfl,rfl,Nat.le_refl _,World.ownsRow_nil _ _ _ _,Below.refl _ _⟩
 case round =>
  obtain ⟨k,out,hk,rfl,hpk,hol,ho,hB⟩:=hrel;have HP:Hid (pickGo f (es.drop k) out=pickGo f es []):=hpk;have HO:Hid (wr.ownsRow w1.heap.size 94 2 _ out.length (cellsRs out)):=ho;clear hpk ho;have hbs:=hB.size;have HVA2:Hid (RngIn wr _ a):=(HVA1.out.below hB).mono hbs;have HVB2:Hid (RngIn wr _ b):=(HVB1.out.below hB).mono hbs;by_cases hlt:k<es.length
  · obtain ⟨gg,off,rfl,hg,c0⟩:=HA.out k hlt;obtain ⟨y,hy⟩ :∃y,y=es[k]:=⟨_,rfl⟩;rw [<- hy] at c0;have hyb:=HEB.out y (by rw [hy];exact List.getElem_mem hlt);have HY:Hid (y=es[k]):=hy;have d0:wr.cell? ⟨gg,off+k,none⟩=some (.int .i64 y):=(hB.cell (p:=⟨gg,_,none⟩) hg).trans c0;clear c0 hy;obtain ⟨x1,hx1⟩ :∃x1,hasR a y=x1:=⟨_,rfl⟩;obtain ⟨x2,hx2⟩ :∃x2,hasR b y=x2:=⟨_,rfl⟩;have HFY:Hid (f y=g x1 x2):=by show _=_;rw [HF.out,hx1,hx2]
    have HH1:Hid (Calls Tryz.prog 137 #[.slice ada a.length ca,.int .i64 y] wr λe w'=>e = .returned (.bool x1)/\w'=wr):=by rw [<- hx1];exact refHas_any a (by omega) y _ wr HVA2.out
    have HH2:Hid (Calls Tryz.prog 137 #[.slice adb b.length cb,.int .i64 y] wr λe w'=>e = .returned (.bool x2)/\w'=wr):=by rw [<- hx2];exact refHas_any b (by omega) y _ wr HVB2.out
    clear hx1 hx2 HVA2 HVB2;have HWA:Hid (∀hi,Calls Tryz.prog 138 #[_,.int .i64 y,.int .i64 hi] wr λe w'=>∃v',e = .returned v'/\w'.ownsRow w1.heap.size 94 2 v' (withL out y hi).length (cellsRs (withL out y hi))/\Below w1.heap.size wr w'):=λhi=>with_any w1.heap.size out y hi _ wr (by omega) (by omega) hbs HO.out;by_cases hlt2:k+1<es.length
    · obtain ⟨gg',off',e2,_,c1⟩:=HA.out (k+1) hlt2;obtain ⟨rfl,rfl⟩:gg=gg'/\off=off':=by simpa using e2
      obtain ⟨z,hz⟩ :∃z,z=es[k+1]:=⟨_,rfl⟩;rw [<- hz] at c1;have hzb:=HEB.out z (by rw [hz];exact List.getElem_mem hlt2);have HSTEP:Hid (pickGo f (es.drop k) out=pickGo f (es.drop (k+1)) (if g x1 x2=true then withL out y (z-1) else out)):=by
       show _=_;rw [pickGo_step hlt out (z-1) (.inl ⟨hlt2,by rw [hz]⟩),<- HY.out,HFY.out]
      have d1:wr.cell? ⟨gg,off+(k+1),none⟩=some (.int .i64 z):=(hB.cell (p:=⟨gg,_,none⟩) hg).trans c1;clear c1 hz e2
      go_wp2_with fail
      refine HH1.out.mono ?_;rintro e w2 ⟨rfl,rfl⟩
      go_wp2_with fail
      refine HH2.out.mono ?_;rintro e w3 ⟨rfl,rfl⟩;clear HH1 HH2 d1;rcases HK.out with ⟨rfl,rfl⟩ | ⟨rfl,rfl⟩ | ⟨rfl,rfl⟩ | ⟨rfl,rfl⟩
      · cases x1<;>cases x2
        · have HS2:Hid (pickGo f (es.drop k) out=pickGo f (es.drop (k+1)) out):=HSTEP.out;clear HWA d0 HSTEP;go_wp2
          go_roundw
          case rel=>exact ⟨k+1,out,by omega,by go_num,by rw [<- HS2.out];exact HP.out,by omega,HO.out,hB⟩
          case measure=>simp [intOf];omega
        · go_wp2_with fail
          refine (HWA.out _).mono ?_;rintro e w4 ⟨v4,rfl,ho4,hB4⟩;have HO4:Hid (w4.ownsRow w1.heap.size 94 2 v4 (withL out y (z-1)).length (cellsRs (withL out y (z-1)))):=ho4;have HS2:Hid (pickGo f (es.drop k) out=pickGo f (es.drop (k+1)) (withL out y (z-1))):=HSTEP.out;have HL4:Hid ((withL out y (z-1)).length<=k+1):=by have:=withL_length out y (z-1);show _<=_;omega
          have hB14:=hB.trans hB4;clear ho4 HO HWA d0 HSTEP;go_wp2
          go_roundw
          case rel=>exact ⟨k+1,_,by omega,by go_num,by rw [<- HS2.out];exact HP.out,HL4.out,HO4.out,hB14⟩
          case measure=>simp [intOf];omega
        · go_wp2_with fail
          refine (HWA.out _).mono ?_;rintro e w4 ⟨v4,rfl,ho4,hB4⟩;have HO4:Hid (w4.ownsRow w1.heap.size 94 2 v4 (withL out y (z-1)).length (cellsRs (withL out y (z-1)))):=ho4;have HS2:Hid (pickGo f (es.drop k) out=pickGo f (es.drop (k+1)) (withL out y (z-1))):=HSTEP.out;have HL4:Hid ((withL out y (z-1)).length<=k+1):=by have:=withL_length out y (z-1);show _<=_;omega
          have hB14:=hB.trans hB4;clear ho4 HO HWA d0 HSTEP;go_wp2
          go_roundw
          case rel=>exact ⟨k+1,_,by omega,by go_num,by rw [<- HS2.out];exact HP.out,HL4.out,HO4.out,hB14⟩
          case measure=>simp [intOf];omega
        · go_wp2_with fail
          refine (HWA.out _).mono ?_;rintro e w4 ⟨v4,rfl,ho4,hB4⟩;have HO4:Hid (w4.ownsRow w1.heap.size 94 2 v4 (withL out y (z-1)).length (cellsRs (withL out y (z-1)))):=ho4;have HS2:Hid (pickGo f (es.drop k) out=pickGo f (es.drop (k+1)) (withL out y (z-1))):=HSTEP.out;have HL4:Hid ((withL out y (z-1)).length<=k+1):=by have:=withL_length out y (z-1);show _<=_;omega
          have hB14:=hB.trans hB4;clear ho4 HO HWA d0 HSTEP;go_wp2
          go_roundw
          case rel=>exact ⟨k+1,_,by omega,by go_num,by rw [<- HS2.out];exact HP.out,HL4.out,HO4.out,hB14⟩
          case measure=>simp [intOf];omega
      · cases x1<;>cases x2
        · have HS2:Hid (pickGo f (es.drop k) out=pickGo f (es.drop (k+1)) out):=HSTEP.out;clear HWA d0 HSTEP;go_wp2
          go_roundw
          case rel=>exact ⟨k+1,out,by omega,by go_num,by rw [<- HS2.out];exact HP.out,by omega,HO.out,hB⟩
          case measure=>simp [intOf];omega
        · have HS2:Hid (pickGo f (es.drop k) out=pickGo f (es.drop (k+1)) out):=HSTEP.out;clear HWA d0 HSTEP;go_wp2
          go_roundw
          case rel=>exact ⟨k+1,out,by omega,by go_num,by rw [<- HS2.out];exact HP.out,by omega,HO.out,hB⟩
          case measure=>simp [intOf];omega
        · have HS2:Hid (pickGo f (es.drop k) out=pickGo f (es.drop (k+1)) out):=HSTEP.out;clear HWA d0 HSTEP;go_wp2
          go_roundw
          case rel=>exact ⟨k+1,out,by omega,by go_num,by rw [<- HS2.out];exact HP.out,by omega,HO.out,hB⟩
          case measure=>simp [intOf];omega
        · go_wp2_with fail
          refine (HWA.out _).mono ?_;rintro e w4 ⟨v4,rfl,ho4,hB4⟩;have HO4:Hid (w4.ownsRow w1.heap.size 94 2 v4 (withL out y (z-1)).length (cellsRs (withL out y (z-1)))):=ho4;have HS2:Hid (pickGo f (es.drop k) out=pickGo f (es.drop (k+1)) (withL out y (z-1))):=HSTEP.out;have HL4:Hid ((withL out y (z-1)).length<=k+1):=by have:=withL_length out y (z-1);show _<=_;omega
          have hB14:=hB.trans hB4;clear ho4 HO HWA d0 HSTEP;go_wp2
          go_roundw
          case rel=>exact ⟨k+1,_,by omega,by go_num,by rw [<- HS2.out];exact HP.out,HL4.out,HO4.out,hB14⟩
          case measure=>simp [intOf];omega
      · cases x1<;>cases x2
        · have HS2:Hid (pickGo f (es.drop k) out=pickGo f (es.drop (k+1)) out):=HSTEP.out;clear HWA d0 HSTEP;go_wp2
          go_roundw
          case rel=>exact ⟨k+1,out,by omega,by go_num,by rw [<- HS2.out];exact HP.out,by omega,HO.out,hB⟩
          case measure=>simp [intOf];omega
        · have HS2:Hid (pickGo f (es.drop k) out=pickGo f (es.drop (k+1)) out):=HSTEP.out;clear HWA d0 HSTEP;go_wp2
          go_roundw
          case rel=>exact ⟨k+1,out,by omega,by go_num,by rw [<- HS2.out];exact HP.out,by omega,HO.out,hB⟩
          case measure=>simp [intOf];omega
        · go_wp2_with fail
          refine (HWA.out _).mono ?_;rintro e w4 ⟨v4,rfl,ho4,hB4⟩;have HO4:Hid (w4.ownsRow w1.heap.size 94 2 v4 (withL out y (z-1)).length (cellsRs (withL out y (z-1)))):=ho4;have HS2:Hid (pickGo f (es.drop k) out=pickGo f (es.drop (k+1)) (withL out y (z-1))):=HSTEP.out;have HL4:Hid ((withL out y (z-1)).length<=k+1):=by have:=withL_length out y (z-1);show _<=_;omega
          have hB14:=hB.trans hB4;clear ho4 HO HWA d0 HSTEP;go_wp2
          go_roundw
          case rel=>exact ⟨k+1,_,by omega,by go_num,by rw [<- HS2.out];exact HP.out,HL4.out,HO4.out,hB14⟩
          case measure=>simp [intOf];omega
        · have HS2:Hid (pickGo f (es.drop k) out=pickGo f (es.drop (k+1)) out):=HSTEP.out;clear HWA d0 HSTEP;go_wp2
          go_roundw
          case rel=>exact ⟨k+1,out,by omega,by go_num,by rw [<- HS2.out];exact HP.out,by omega,HO.out,hB⟩
          case measure=>simp [intOf];omega
      · cases x1<;>cases x2
        · go_wp2_with fail
          refine (HWA.out _).mono ?_;rintro e w4 ⟨v4,rfl,ho4,hB4⟩;have HO4:Hid (w4.ownsRow w1.heap.size 94 2 v4 (withL out y (z-1)).length (cellsRs (withL out y (z-1)))):=ho4;have HS2:Hid (pickGo f (es.drop k) out=pickGo f (es.drop (k+1)) (withL out y (z-1))):=HSTEP.out;have HL4:Hid ((withL out y (z-1)).length<=k+1):=by have:=withL_length out y (z-1);show _<=_;omega
          have hB14:=hB.trans hB4;clear ho4 HO HWA d0 HSTEP;go_wp2
          go_roundw
          case rel=>exact ⟨k+1,_,by omega,by go_num,by rw [<- HS2.out];exact HP.out,HL4.out,HO4.out,hB14⟩
          case measure=>simp [intOf];omega
        · have HS2:Hid (pickGo f (es.drop k) out=pickGo f (es.drop (k+1)) out):=HSTEP.out;clear HWA d0 HSTEP;go_wp2
          go_roundw
          case rel=>exact ⟨k+1,out,by omega,by go_num,by rw [<- HS2.out];exact HP.out,by omega,HO.out,hB⟩
          case measure=>simp [intOf];omega
        · have HS2:Hid (pickGo f (es.drop k) out=pickGo f (es.drop (k+1)) out):=HSTEP.out;clear HWA d0 HSTEP;go_wp2
          go_roundw
          case rel=>exact ⟨k+1,out,by omega,by go_num,by rw [<- HS2.out];exact HP.out,by omega,HO.out,hB⟩
          case measure=>simp [intOf];omega
        · have HS2:Hid (pickGo f (es.drop k) out=pickGo f (es.drop (k+1)) out):=HSTEP.out;clear HWA d0 HSTEP;go_wp2
          go_roundw
          case rel=>exact ⟨k+1,out,by omega,by go_num,by rw [<- HS2.out];exact HP.out,by omega,HO.out,hB⟩
          case measure=>simp [intOf];omega
    · obtain hke:k+1=es.length:=by omega
      have HSTEP:Hid (pickGo f (es.drop k) out=pickGo f (es.drop (k+1)) (if g x1 x2=true then withL out y 1114111 else out)):=by
       show _=_;rw [pickGo_step hlt out 1114111 (.inr ⟨hke,rfl⟩),<- HY.out,HFY.out]
      go_wp2_with fail
      refine HH1.out.mono ?_;rintro e w2 ⟨rfl,rfl⟩
      go_wp2_with fail
      refine HH2.out.mono ?_;rintro e w3 ⟨rfl,rfl⟩;clear HH1 HH2;rcases HK.out with ⟨rfl,rfl⟩ | ⟨rfl,rfl⟩ | ⟨rfl,rfl⟩ | ⟨rfl,rfl⟩
      · cases x1<;>cases x2
        · have HS2:Hid (pickGo f (es.drop k) out=pickGo f (es.drop (k+1)) out):=HSTEP.out;clear HWA d0 HSTEP;go_wp2
          go_roundw
          case rel=>exact ⟨k+1,out,by omega,by go_num,by rw [<- HS2.out];exact HP.out,by omega,HO.out,hB⟩
          case measure=>simp [intOf];omega
        · go_wp2_with fail
          refine (HWA.out _).mono ?_;rintro e w4 ⟨v4,rfl,ho4,hB4⟩;have HO4:Hid (w4.ownsRow w1.heap.size 94 2 v4 (withL out y (1114111)).length (cellsRs (withL out y (1114111)))):=ho4;have HS2:Hid (pickGo f (es.drop k) out=pickGo f (es.drop (k+1)) (withL out y (1114111))):=HSTEP.out;have HL4:Hid ((withL out y (1114111)).length<=k+1):=by have:=withL_length out y (1114111);show _<=_;omega
          have hB14:=hB.trans hB4;clear ho4 HO HWA d0 HSTEP;go_wp2
          go_roundw
          case rel=>exact ⟨k+1,_,by omega,by go_num,by rw [<- HS2.out];exact HP.out,HL4.out,HO4.out,hB14⟩
          case measure=>simp [intOf];omega
        · go_wp2_with fail
          refine (HWA.out _).mono ?_;rintro e w4 ⟨v4,rfl,ho4,hB4⟩;have HO4:Hid (w4.ownsRow w1.heap.size 94 2 v4 (withL out y (1114111)).length (cellsRs (withL out y (1114111)))):=ho4;have HS2:Hid (pickGo f (es.drop k) out=pickGo f (es.drop (k+1)) (withL out y (1114111))):=HSTEP.out;have HL4:Hid ((withL out y (1114111)).length<=k+1):=by have:=withL_length out y (1114111);show _<=_;omega
          have hB14:=hB.trans hB4;clear ho4 HO HWA d0 HSTEP;go_wp2
          go_roundw
          case rel=>exact ⟨k+1,_,by omega,by go_num,by rw [<- HS2.out];exact HP.out,HL4.out,HO4.out,hB14⟩
          case measure=>simp [intOf];omega
        · go_wp2_with fail
          refine (HWA.out _).mono ?_;rintro e w4 ⟨v4,rfl,ho4,hB4⟩;have HO4:Hid (w4.ownsRow w1.heap.size 94 2 v4 (withL out y (1114111)).length (cellsRs (withL out y (1114111)))):=ho4;have HS2:Hid (pickGo f (es.drop k) out=pickGo f (es.drop (k+1)) (withL out y (1114111))):=HSTEP.out;have HL4:Hid ((withL out y (1114111)).length<=k+1):=by have:=withL_length out y (1114111);show _<=_;omega
          have hB14:=hB.trans hB4;clear ho4 HO HWA d0 HSTEP;go_wp2
          go_roundw
          case rel=>exact ⟨k+1,_,by omega,by go_num,by rw [<- HS2.out];exact HP.out,HL4.out,HO4.out,hB14⟩
          case measure=>simp [intOf];omega
      · cases x1<;>cases x2
        · have HS2:Hid (pickGo f (es.drop k) out=pickGo f (es.drop (k+1)) out):=HSTEP.out;clear HWA d0 HSTEP;go_wp2
          go_roundw
          case rel=>exact ⟨k+1,out,by omega,by go_num,by rw [<- HS2.out];exact HP.out,by omega,HO.out,hB⟩
          case measure=>simp [intOf];omega
        · have HS2:Hid (pickGo f (es.drop k) out=pickGo f (es.drop (k+1)) out):=HSTEP.out;clear HWA d0 HSTEP;go_wp2
          go_roundw
          case rel=>exact ⟨k+1,out,by omega,by go_num,by rw [<- HS2.out];exact HP.out,by omega,HO.out,hB⟩
          case measure=>simp [intOf];omega
        · have HS2:Hid (pickGo f (es.drop k) out=pickGo f (es.drop (k+1)) out):=HSTEP.out;clear HWA d0 HSTEP;go_wp2
          go_roundw
          case rel=>exact ⟨k+1,out,by omega,by go_num,by rw [<- HS2.out];exact HP.out,by omega,HO.out,hB⟩
          case measure=>simp [intOf];omega
        · go_wp2_with fail
          refine (HWA.out _).mono ?_;rintro e w4 ⟨v4,rfl,ho4,hB4⟩;have HO4:Hid (w4.ownsRow w1.heap.size 94 2 v4 (withL out y (1114111)).length (cellsRs (withL out y (1114111)))):=ho4;have HS2:Hid (pickGo f (es.drop k) out=pickGo f (es.drop (k+1)) (withL out y (1114111))):=HSTEP.out;have HL4:Hid ((withL out y (1114111)).length<=k+1):=by have:=withL_length out y (1114111);show _<=_;omega
          have hB14:=hB.trans hB4;clear ho4 HO HWA d0 HSTEP;go_wp2
          go_roundw
          case rel=>exact ⟨k+1,_,by omega,by go_num,by rw [<- HS2.out];exact HP.out,HL4.out,HO4.out,hB14⟩
          case measure=>simp [intOf];omega
      · cases x1<;>cases x2
        · have HS2:Hid (pickGo f (es.drop k) out=pickGo f (es.drop (k+1)) out):=HSTEP.out;clear HWA d0 HSTEP;go_wp2
          go_roundw
          case rel=>exact ⟨k+1,out,by omega,by go_num,by rw [<- HS2.out];exact HP.out,by omega,HO.out,hB⟩
          case measure=>simp [intOf];omega
        · have HS2:Hid (pickGo f (es.drop k) out=pickGo f (es.drop (k+1)) out):=HSTEP.out;clear HWA d0 HSTEP;go_wp2
          go_roundw
          case rel=>exact ⟨k+1,out,by omega,by go_num,by rw [<- HS2.out];exact HP.out,by omega,HO.out,hB⟩
          case measure=>simp [intOf];omega
        · go_wp2_with fail
          refine (HWA.out _).mono ?_;rintro e w4 ⟨v4,rfl,ho4,hB4⟩;have HO4:Hid (w4.ownsRow w1.heap.size 94 2 v4 (withL out y (1114111)).length (cellsRs (withL out y (1114111)))):=ho4;have HS2:Hid (pickGo f (es.drop k) out=pickGo f (es.drop (k+1)) (withL out y (1114111))):=HSTEP.out;have HL4:Hid ((withL out y (1114111)).length<=k+1):=by have:=withL_length out y (1114111);show _<=_;omega
          have hB14:=hB.trans hB4;clear ho4 HO HWA d0 HSTEP;go_wp2
          go_roundw
          case rel=>exact ⟨k+1,_,by omega,by go_num,by rw [<- HS2.out];exact HP.out,HL4.out,HO4.out,hB14⟩
          case measure=>simp [intOf];omega
        · have HS2:Hid (pickGo f (es.drop k) out=pickGo f (es.drop (k+1)) out):=HSTEP.out;clear HWA d0 HSTEP;go_wp2
          go_roundw
          case rel=>exact ⟨k+1,out,by omega,by go_num,by rw [<- HS2.out];exact HP.out,by omega,HO.out,hB⟩
          case measure=>simp [intOf];omega
      · cases x1<;>cases x2
        · go_wp2_with fail
          refine (HWA.out _).mono ?_;rintro e w4 ⟨v4,rfl,ho4,hB4⟩;have HO4:Hid (w4.ownsRow w1.heap.size 94 2 v4 (withL out y (1114111)).length (cellsRs (withL out y (1114111)))):=ho4;have HS2:Hid (pickGo f (es.drop k) out=pickGo f (es.drop (k+1)) (withL out y (1114111))):=HSTEP.out;have HL4:Hid ((withL out y (1114111)).length<=k+1):=by have:=withL_length out y (1114111);show _<=_;omega
          have hB14:=hB.trans hB4;clear ho4 HO HWA d0 HSTEP;go_wp2
          go_roundw
          case rel=>exact ⟨k+1,_,by omega,by go_num,by rw [<- HS2.out];exact HP.out,HL4.out,HO4.out,hB14⟩
          case measure=>simp [intOf];omega
        · have HS2:Hid (pickGo f (es.drop k) out=pickGo f (es.drop (k+1)) out):=HSTEP.out;clear HWA d0 HSTEP;go_wp2
          go_roundw
          case rel=>exact ⟨k+1,out,by omega,by go_num,by rw [<- HS2.out];exact HP.out,by omega,HO.out,hB⟩
          case measure=>simp [intOf];omega
        · have HS2:Hid (pickGo f (es.drop k) out=pickGo f (es.drop (k+1)) out):=HSTEP.out;clear HWA d0 HSTEP;go_wp2
          go_roundw
          case rel=>exact ⟨k+1,out,by omega,by go_num,by rw [<- HS2.out];exact HP.out,by omega,HO.out,hB⟩
          case measure=>simp [intOf];omega
        · have HS2:Hid (pickGo f (es.drop k) out=pickGo f (es.drop (k+1)) out):=HSTEP.out;clear HWA d0 HSTEP;go_wp2
          go_roundw
          case rel=>exact ⟨k+1,out,by omega,by go_num,by rw [<- HS2.out];exact HP.out,by omega,HO.out,hB⟩
          case measure=>simp [intOf];omega
  · obtain rfl:k=es.length:=by omega
    have HE:Hid (pickGo f es []=out):=by
     show _=_;rw [<- HP.out,List.drop_length];rfl
    have HU:Hid (Upto f out 1114112):=by
     show Upto f out 1114112;rw [<- HE.out];exact HSP.out
    go_wp2;go_ret;exact ⟨out,_,rfl,HU.out,own_mono' HO.out hs1,hB1.trans (hB.mono hs1)⟩
end Go.Proofs.YtfdjchnckjgapaaGreatDoor
namespace Go.Proofs.YtfdjchnckjgapaaGreatDoor
set_option maxHeartbeats 4000000
set_option maxRecDepth 100000
open Go.RowKit Go.Shelf S1
set_option linter.unusedVariables false
theorem refOr_any (a b:List Rg) (ha:IsSet a) (hb:IsSet b) (la:a.length<=20000) (lb:b.length<=20000) (va vb:Value) (w:World) (hva:RngSrc w va a) (hvb:RngSrc w vb b) :
 Calls Tryz.prog 90 #[va,vb] w λe w'=>Makes w (λx=>hasR a x||hasR b x) e w':=by
 have HC:=pick_any 0 (λx y=>x||y) (.inl ⟨rfl,rfl⟩) a b la lb ha.upto.fits hb.upto.fits va vb w hva hvb;obtain ⟨ada,ca,rfl,_,_⟩:=hva.1;obtain ⟨adb,cb,rfl,_,_⟩:=hvb.1;go_enter Tryz.func90,Tryz.ntmps90
 go_wp2_with fail
 refine HC.mono ?_;rintro e w1 ⟨l,v,rfl,hu,ho,hB⟩;have HO:Hid _:=ho;have HU:Hid _:=hu;clear ho hu HC;go_wp2;go_ret;exact ⟨l,v,rfl,HU.out,HO.out,hB⟩
theorem refAnd_any (a b:List Rg) (ha:IsSet a) (hb:IsSet b) (la:a.length<=20000) (lb:b.length<=20000) (va vb:Value) (w:World) (hva:RngSrc w va a) (hvb:RngSrc w vb b) :
 Calls Tryz.prog 92 #[va,vb] w λe w'=>Makes w (λx=>hasR a x&&hasR b x) e w':=by
 have HC:=pick_any 1 (λx y=>x&&y) (.inr (.inl ⟨rfl,rfl⟩)) a b la lb ha.upto.fits hb.upto.fits va vb w hva hvb;obtain ⟨ada,ca,rfl,_,_⟩:=hva.1;obtain ⟨adb,cb,rfl,_,_⟩:=hvb.1;go_enter Tryz.func92,Tryz.ntmps92
 go_wp2_with fail
 refine HC.mono ?_;rintro e w1 ⟨l,v,rfl,hu,ho,hB⟩;have HO:Hid _:=ho;have HU:Hid _:=hu;clear ho hu HC;go_wp2;go_ret;exact ⟨l,v,rfl,HU.out,HO.out,hB⟩
theorem refLess_any (a b:List Rg) (ha:IsSet a) (hb:IsSet b) (la:a.length<=20000) (lb:b.length<=20000) (va vb:Value) (w:World) (hva:RngSrc w va a) (hvb:RngSrc w vb b) :
 Calls Tryz.prog 91 #[va,vb] w λe w'=>Makes w (λx=>hasR a x && !hasR b x) e w':=by
 have HC:=pick_any 2 (λx y=>x && !y) (.inr (.inr (.inl ⟨rfl,rfl⟩))) a b la lb ha.upto.fits hb.upto.fits va vb w hva hvb;obtain ⟨ada,ca,rfl,_,_⟩:=hva.1;obtain ⟨adb,cb,rfl,_,_⟩:=hvb.1;go_enter Tryz.func91,Tryz.ntmps91
 go_wp2_with fail
 refine HC.mono ?_;rintro e w1 ⟨l,v,rfl,hu,ho,hB⟩;have HO:Hid _:=ho;have HU:Hid _:=hu;clear ho hu HC;go_wp2;go_ret;exact ⟨l,v,rfl,HU.out,HO.out,hB⟩
theorem refNot_any (a:List Rg) (ha:IsSet a) (la:a.length<=20000) (va:Value) (w:World) (hva:RngSrc w va a) :
 Calls Tryz.prog 124 #[va] w λe w'=>Makes w (λx => !hasR a x) e w':=by
 have HC:=pick_any 3 (λx y => !x && !y) (.inr (.inr (.inr ⟨rfl,rfl⟩))) a [] la (by simp) ha.upto.fits (λr hr=>by cases hr) va _ w hva (RngSrc.nil _);obtain ⟨ada,ca,rfl,_,_⟩:=hva.1;go_enter Tryz.func124,Tryz.ntmps124
 go_wp2_with fail
 refine HC.mono ?_;rintro e w1 ⟨l,v,rfl,hu,ho,hB⟩;have HO:Hid _:=ho;have HU:Hid (Upto (λx => !hasR a x) l 1114112):=hu.congr (λx _ _=>by simp [show hasR [] x=false from rfl]);clear ho hu HC;go_wp2;go_ret;exact ⟨l,v,rfl,HU.out,HO.out,hB⟩
theorem sameG_any (us vs:List Rg) (hlen:us.length<=600000) (va vb:Value) (w:World) (ha:RngIn w va us) (hb:RngIn w vb vs) :
 Calls Tryz.prog 24 #[va,vb] w λe w'=>e = .returned (.bool (sameS us vs))/\Below w.heap.size w w':=by
 obtain ⟨a,ca,rfl,hca,hia⟩:=ha;obtain ⟨b,cb,rfl,hcb,hib⟩:=hb;obtain ⟨q,hq⟩ :∃q,q=sameS us vs:=⟨_,rfl⟩;rw [<- hq];have HQ:Hid (q=sameS us vs):=hq;clear hq;by_cases hl:us.length=vs.length
 · have HA:Hid (∀i,(h:i<us.length)->∃g off,a=some ⟨g,off,none⟩/\g<w.heap.size/\w.cell? ⟨g,off+i*2,none⟩=some (.int .i64 us[i].lo)/\w.cell? ⟨g,off+i*2+1,none⟩=some (.int .i64 us[i].hi)):=hia;have HB:Hid (∀i,(h:i<vs.length)->∃g off,b=some ⟨g,off,none⟩/\g<w.heap.size/\w.cell? ⟨g,off+i*2,none⟩=some (.int .i64 vs[i].lo)/\w.cell? ⟨g,off+i*2+1,none⟩=some (.int .i64 vs[i].hi)):=hib;have HL:Hid (us.length=vs.length):=hl;rw [<- hl] at hcb ⊢;clear hia hib hl;have hneq:((us.length:Int) != (us.length:Int))=false:=by simp
   go_enter Tryz.func24,Tryz.ntmps24;go_wp2
   go_loopw [5] (λi wr=>∃k:Nat,k<=us.length/\i = .int .i64 k/\Hid (q=sameS (us.drop k) (vs.drop k))/\∃nd,wr=w.drewN nd) (λi _=>us.length-(intOf i).toNat)
   case atStart=>exact ⟨0,Nat.zero_le _,rfl,HQ.out,0,rfl⟩
   case round =>
    obtain ⟨k,hk,rfl,HD,nd,rfl⟩:=hrel;by_cases hlt:k<us.length
    · have hlt2:k<vs.length:=by have:=HL.out;omega
      obtain ⟨ga,oa,rfl,hga,a0,a1⟩:=HA.out k hlt;obtain ⟨gb,ob,rfl,hgb,b0,b1⟩:=HB.out k hlt2;obtain ⟨xl,hxl⟩ :∃x,x=us[k].lo:=⟨_,rfl⟩;obtain ⟨xh,hxh⟩ :∃x,x=us[k].hi:=⟨_,rfl⟩;obtain ⟨yl,hyl⟩ :∃x,x=vs[k].lo:=⟨_,rfl⟩;obtain ⟨yh,hyh⟩ :∃x,x=vs[k].hi:=⟨_,rfl⟩;have HD2:Hid (q=((xl==yl&&xh==yh)&&sameS (us.drop (k+1)) (vs.drop (k+1)))):=by
       show _=_;rw [hxl,hxh,hyl,hyh,<- sameS_drop hlt hlt2];exact HD.out
      rw [<- hxl] at a0;rw [<- hxh] at a1;rw [<- hyl] at b0;rw [<- hyh] at b1;clear hxl hxh hyl hyh hlt2;have hk0:(0:Int)<=(k:Int):=by omega
      have hk1:(k:Int)<(us.length:Int):=by omega
      cases h1:(xl==yl) with
      | false =>
       have h1':(xl != yl)=true:=by simp only [bne,h1];rfl
       have HD3:Hid (q=false):=by
        show _=_;rw [HD2.out,h1];rfl
       clear HD HD2;go_wp2
       go_quiet (fail)
       go_wp2;go_ret;refine ⟨by rw [HD3.out];rfl,?_⟩
       first | exact below_drewN' (below_drewN' (Below.refl _ _) _) _ | exact below_drewN' (Below.refl _ _) _
      | true =>
       have h1':(xl != yl)=false:=by simp only [bne,h1];rfl
       cases h2:(xh==yh) with
       | false =>
        have h2':(xh != yh)=true:=by simp only [bne,h2];rfl
        have HD3:Hid (q=false):=by
         show _=_;rw [HD2.out,h1,h2];rfl
        clear HD HD2;go_wp2
        go_quiet (fail)
        go_wp2;go_ret;refine ⟨by rw [HD3.out];rfl,?_⟩
        first | exact below_drewN' (below_drewN' (Below.refl _ _) _) _ | exact below_drewN' (Below.refl _ _) _
       | true =>
        have h2':(xh != yh)=false:=by simp only [bne,h2];rfl
        have HD3:Hid (q=sameS (us.drop (k+1)) (vs.drop (k+1))):=by
         show _=_;rw [HD2.out,h1,h2];rfl
        clear HD HD2;go_wp2
        go_quiet (fail)
        go_wp2
        go_roundw
        case rel=>exact ⟨k+1,by omega,by go_num,HD3,_,rfl⟩
        case measure=>simp [intOf];omega
    · obtain rfl:k=us.length:=by omega
      have HD3:Hid (q=true):=by
       show _=_;rw [HD.out,List.drop_length,HL.out,List.drop_length];rfl
      go_wp2;go_ret;exact ⟨by rw [HD3.out];rfl,below_drewN' (Below.refl _ _) _⟩
 · have hneq:((us.length:Int) != (vs.length:Int))=true:=by simp;omega
   have HE:Hid (q=false):=HQ.out.trans (sameS_len hl);clear hia hib hl;go_enter Tryz.func24,Tryz.ntmps24;go_wp2;go_ret;exact ⟨by rw [HE.out];rfl,Below.refl _ _⟩
end Go.Proofs.YtfdjchnckjgapaaGreatDoor
