/-
  S1First
-/
import Derived.Test.YtfdjchnckjgapaaGreatDoorZ32
import Derived.Test.YtfdjchnckjgapaaGreatDoorZ00
import Derived.Deep.QuietTactic
import Derived.BigQuiet
namespace Go.Proofs.YtfdjchnckjgapaaGreatDoor.S1
set_option maxHeartbeats 1000000
open Go.RowKit
set_option linter.unusedVariables false
theorem low_any (c:Int) (h0:0<=c) (h1:c<=255) (w:World):Calls Tryz.prog 120 #[.int .u8 c] w λe w'=>e = .returned (.int .i64 (c % 64))/\w'=w:=by
 go_enter Tryz.func120,Tryz.ntmps120;go_wp2;go_ret;exact ⟨rfl,rfl⟩
theorem strOfNums_eq {x y:List Int} (hx:Byt x) (hy:Byt y):((strOfNums x).toList==(strOfNums y).toList)=decide (x=y):=by
 have key:∀x y:List Int,Byt x->Byt y->((x.map λn=>UInt8.ofNat n.toNat)=(y.map λn=>UInt8.ofNat n.toNat))->x=y:=by
  intro x
  induction x with
  | nil=>intro y _ _ h;cases y<;>simp_all
  | cons a x ih =>
   intro y hx hy h;cases y with
   | nil=>simp at h
   | cons b y =>
    simp only [List.map_cons,List.cons.injEq] at h;have ha:=hx a (by simp);have hb:=hy b (by simp);have e:a=b:=by
     have:=congrArg UInt8.toNat h.1;simp only [UInt8.toNat_ofNat'] at this;omega
    rw [e,ih y (λc hc=>hx c (by simp [hc])) (λc hc=>hy c (by simp [hc])) h.2]
 by_cases e:x=y
 · subst e;simp
 · rw [decide_eq_false e];have:(strOfNums x).toList≠(strOfNums y).toList:=λq=>e (key x y hx hy (by simpa [strOfNums,ByteArray.toList_eq] using q));simpa using this
theorem Told.drewN {w:World} {base:Nat} {v:Value} {l:List Int} (h:Told w base v l):∀k,Told (w.drewN k) base v l
 | 0=>h
 | k+1=>(Told.drewN h k).drew
theorem cell_drewN (w:World) (a:Addr):∀k,(w.drewN k).cell? a=w.cell? a
 | 0=>rfl
 | k+1=>cell_drewN w a k
theorem size_drewN (w:World):∀k,(w.drewN k).heap.size=w.heap.size
 | 0=>rfl
 | k+1=>size_drewN w k
theorem below_drewN' {B:Nat} {a w:World} (h:Below B a w):∀k,Below B a (w.drewN k)
 | 0=>h
 | k+1=>(below_drewN' h k).drew
theorem convert_cut (l:List Int) (n:Nat) (hn:n<=l.length) (b off cap:Nat) (w:World) (hc:∀j,j<l.length->w.cell? ⟨b,off+j,none⟩=some (.int .u8 (l[j]?.getD 0))) :
 (convert 22 9 (.slice (some ⟨b,off,none⟩) n cap)).run Tryz.prog w = .ok (.string (strOfNums (l.take n))) w:=by
 refine run_convert_bytes_arg w 22 5 Tryz.underlying22 Tryz.underlying5 b off n cap (l.take n) (by rw [List.length_take];omega) (λi hi => ?_) 9 Tryz.underlying9;rw [hc i (by omega)];simp [List.getD,hi]
theorem byt_take {l:List Int} (h:Byt l) (n:Nat):Byt (l.take n):=λc hc=>h c (List.mem_of_mem_take hc)
def firstV (l:List Int):Value := .agg #[.int .i64 (unD l).r,.int .i64 0,.int .i64 ((unD l).w:Int),.bool (unD l).bad]
theorem firstV_good {l:List Int} {R:Int} {n:Nat} (er:candR l=R) (en:candN l=n) (h:isR R=true) (he:encR R=l.take n):firstV l = .agg #[.int .i64 R,.int .i64 0,.int .i64 (n:Int),.bool false]:=by
 subst er;subst en;unfold firstV unD;rw [if_pos ⟨h,he⟩]
theorem firstV_bad {l:List Int} {R:Int} {n:Nat} (er:candR l=R) (en:candN l=n) (h:isR R=false\/encR R≠l.take n):firstV l = .agg #[.int .i64 65533,.int .i64 0,.int .i64 1,.bool true]:=by
 subst er;subst en;unfold firstV unD;rw [if_neg (λq=>h.elim (λh=>by rw [h] at q;cases q.1) (λh=>h q.2))];rfl
theorem cell_same' (w:World) (o:Obj) (b:Nat) (j:Nat) (hb:b<w.heap.size):(w.alloc o).cell? ⟨b,j,none⟩=w.cell? ⟨b,j,none⟩:=World.cell?_of_block (a:=⟨b,j,none⟩) (Below.heap_alloc w o b hb)
theorem heap_new' (w:World) (o:Obj):(w.alloc o).heap[w.heap.size]? = some o:=by
 show (w.heap.push o)[w.heap.size]? = _;simp
theorem frozen_new' (w:World) (cs:Array Value) (t:TypeId) (j:Nat):(w.alloc (.cells cs t)).frozen? ⟨w.heap.size,j,none⟩=false:=by
 have h:=heap_new' w (.cells cs t);unfold World.frozen?;rw [h];simp
theorem below_undrew {B:Nat} {a w:World}:∀ {k:Nat},Below B (a.drewN k) w->Below B a w
 | 0,h=>h
 | k+1,h=>below_undrew (k:=k) ⟨h.os,h.tape,h.output,h.size,h.block⟩
theorem first_0 (c:Int) (t:List Int) (hl:Byt (c::t)) (h0:128<=c) (h1:c<192\/248<=c\/(192<=c/\c<224/\t.length<1)\/(224<=c/\c<240/\t.length<2)\/(240<=c/\c<248/\t.length<3)) (L:Nat) (hL:L=(c::t).length) (hlen:L<=10000) (b off cap:Nat) (hcap:L<=cap) (w:World) (hb:b<w.heap.size)
 (hcell:∀j,j<(c::t).length->w.cell? ⟨b,off+j,none⟩=some (.int .u8 ((c::t)[j]?.getD 0))) :
 Calls Tryz.prog 86 #[.slice (some ⟨b,off,none⟩) L cap] w λe w'=>e = .returned (firstV (c::t))/\Below w.heap.size w w':=by
 have hc:=hl c (by simp);have k0:∀o,(w.alloc o).cell? ⟨b,off,none⟩=some (.int .u8 c):=λo=>(cell_same' w o b _ hb).trans (hcell 0 (by simp));have hR0:candR (c::t)=-1:=by simp only [candR];rw [if_neg (by omega),if_neg (by omega),if_neg (by omega),if_neg (by omega)]
 have hN0:candN (c::t)=1:=by simp only [candN];rw [if_neg (by omega),if_neg (by omega),if_neg (by omega),if_neg (by omega)]
 have HR:Hid (candR (c::t)=-1):=hR0;have HN:Hid (candN (c::t)=1):=hN0;have hLn:1<=L:=by rw [hL];simp
 have hLt:L=t.length+1:=by rw [hL];simp
 have HC:Hid (∀j,j<(c::t).length->w.cell? ⟨b,off+j,none⟩=some (.int .u8 ((c::t)[j]?.getD 0))):=hcell;have HLn:Hid (L=(c::t).length):=hL;have HLB:Hid (Byt (c::t)):=hl;clear hcell hL hl hR0 hN0;rcases h1 with h1 | h1 | ⟨h1,h2,h3⟩ | ⟨h1,h2,h3⟩ | ⟨h1,h2,h3⟩
 · go_enter Tryz.func86,Tryz.ntmps86
   go_wp2_with fail
   refine (refEncode_any _ _).mono ?_;rintro e' w1 ⟨v1,rfl,ho1,hB1⟩;clear k0;obtain ⟨R,hRd⟩ :∃R:Int,R=-1:=⟨_,rfl⟩;rw [<- hRd] at ho1 ⊢;have HRd:Hid (R=-1):=hRd;clear hRd;have hr0:Below (w.heap.size+1) (w.alloc (.cells #[.int .i64 0,.int .i64 0,.int .i64 0,.bool false] 83)) w1:=by
    have:=hB1;simp only [World.size_alloc] at this
    first | exact this | exact below_undrew this
   clear hB1;have hBw:Below w.heap.size w w1:=((Below.refl _ w).alloc (Nat.le_refl _) _).trans (hr0.mono (by omega));have q0:w1.cell? ⟨w.heap.size,0,none⟩=some (.int .i64 0):=(hr0.cell (p:=⟨w.heap.size,0,none⟩) (by simp)).trans (cell_of_row _ _ 0 _ _ _ (heap_new' w _));have q1:w1.cell? ⟨w.heap.size,1,none⟩=some (.int .i64 0):=(hr0.cell (p:=⟨w.heap.size,1,none⟩) (by simp)).trans (cell_of_row _ _ 1 _ _ _ (heap_new' w _));have q2:w1.cell? ⟨w.heap.size,2,none⟩=some (.int .i64 0):=(hr0.cell (p:=⟨w.heap.size,2,none⟩) (by simp)).trans (cell_of_row _ _ 2 _ _ _ (heap_new' w _));have q3:w1.cell? ⟨w.heap.size,3,none⟩=some (.bool false):=(hr0.cell (p:=⟨w.heap.size,3,none⟩) (by simp)).trans (cell_of_row _ _ 3 _ _ _ (heap_new' w _));have g0:∀j,w1.frozen? ⟨w.heap.size,j,none⟩=false:=λj=>(hr0.frozen (p:=⟨w.heap.size,j,none⟩) (by simp)).trans (frozen_new' w _ _ j)
   · have hR:isR R=false:=by rw [HRd.out];rfl
     have e1:errR R=1:=by simp [errR,hR]
     have HR1:Hid (isR R=false):=hR;clear hR ho1;go_wp2
     go_quiet (fail)
     go_wp2;refine bodyPost_ret (v := .agg #[.int .i64 65533,.int .i64 0,.int .i64 1,.bool true]) (by simp [results,Tryz.results86,go_sem,q0,q1,q2,q3]) rfl ⟨congrArg Ending.returned (firstV_bad (HR.out.trans HRd.out.symm) HN.out (.inl HR1.out)).symm,?_⟩;exact ((((below_drewN' hBw _).setCell (p:=⟨w.heap.size,0,none⟩) (Nat.le_refl _) _).setCell (p:=⟨w.heap.size,1,none⟩) (Nat.le_refl _) _).setCell (p:=⟨w.heap.size,2,none⟩) (Nat.le_refl _) _).setCell (p:=⟨w.heap.size,3,none⟩) (Nat.le_refl _) _
 · go_enter Tryz.func86,Tryz.ntmps86
   go_wp2_with fail
   refine (refEncode_any _ _).mono ?_;rintro e' w1 ⟨v1,rfl,ho1,hB1⟩;clear k0;obtain ⟨R,hRd⟩ :∃R:Int,R=-1:=⟨_,rfl⟩;rw [<- hRd] at ho1 ⊢;have HRd:Hid (R=-1):=hRd;clear hRd;have hr0:Below (w.heap.size+1) (w.alloc (.cells #[.int .i64 0,.int .i64 0,.int .i64 0,.bool false] 83)) w1:=by
    have:=hB1;simp only [World.size_alloc] at this
    first | exact this | exact below_undrew this
   clear hB1;have hBw:Below w.heap.size w w1:=((Below.refl _ w).alloc (Nat.le_refl _) _).trans (hr0.mono (by omega));have q0:w1.cell? ⟨w.heap.size,0,none⟩=some (.int .i64 0):=(hr0.cell (p:=⟨w.heap.size,0,none⟩) (by simp)).trans (cell_of_row _ _ 0 _ _ _ (heap_new' w _));have q1:w1.cell? ⟨w.heap.size,1,none⟩=some (.int .i64 0):=(hr0.cell (p:=⟨w.heap.size,1,none⟩) (by simp)).trans (cell_of_row _ _ 1 _ _ _ (heap_new' w _));have q2:w1.cell? ⟨w.heap.size,2,none⟩=some (.int .i64 0):=(hr0.cell (p:=⟨w.heap.size,2,none⟩) (by simp)).trans (cell_of_row _ _ 2 _ _ _ (heap_new' w _));have q3:w1.cell? ⟨w.heap.size,3,none⟩=some (.bool false):=(hr0.cell (p:=⟨w.heap.size,3,none⟩) (by simp)).trans (cell_of_row _ _ 3 _ _ _ (heap_new' w _));have g0:∀j,w1.frozen? ⟨w.heap.size,j,none⟩=false:=λj=>(hr0.frozen (p:=⟨w.heap.size,j,none⟩) (by simp)).trans (frozen_new' w _ _ j)
   · have hR:isR R=false:=by rw [HRd.out];rfl
     have e1:errR R=1:=by simp [errR,hR]
     have HR1:Hid (isR R=false):=hR;clear hR ho1;go_wp2
     go_quiet (fail)
     go_wp2;refine bodyPost_ret (v := .agg #[.int .i64 65533,.int .i64 0,.int .i64 1,.bool true]) (by simp [results,Tryz.results86,go_sem,q0,q1,q2,q3]) rfl ⟨congrArg Ending.returned (firstV_bad (HR.out.trans HRd.out.symm) HN.out (.inl HR1.out)).symm,?_⟩;exact ((((below_drewN' hBw _).setCell (p:=⟨w.heap.size,0,none⟩) (Nat.le_refl _) _).setCell (p:=⟨w.heap.size,1,none⟩) (Nat.le_refl _) _).setCell (p:=⟨w.heap.size,2,none⟩) (Nat.le_refl _) _).setCell (p:=⟨w.heap.size,3,none⟩) (Nat.le_refl _) _
 · go_enter Tryz.func86,Tryz.ntmps86
   go_wp2_with fail
   refine (refEncode_any _ _).mono ?_;rintro e' w1 ⟨v1,rfl,ho1,hB1⟩;clear k0;obtain ⟨R,hRd⟩ :∃R:Int,R=-1:=⟨_,rfl⟩;rw [<- hRd] at ho1 ⊢;have HRd:Hid (R=-1):=hRd;clear hRd;have hr0:Below (w.heap.size+1) (w.alloc (.cells #[.int .i64 0,.int .i64 0,.int .i64 0,.bool false] 83)) w1:=by
    have:=hB1;simp only [World.size_alloc] at this
    first | exact this | exact below_undrew this
   clear hB1;have hBw:Below w.heap.size w w1:=((Below.refl _ w).alloc (Nat.le_refl _) _).trans (hr0.mono (by omega));have q0:w1.cell? ⟨w.heap.size,0,none⟩=some (.int .i64 0):=(hr0.cell (p:=⟨w.heap.size,0,none⟩) (by simp)).trans (cell_of_row _ _ 0 _ _ _ (heap_new' w _));have q1:w1.cell? ⟨w.heap.size,1,none⟩=some (.int .i64 0):=(hr0.cell (p:=⟨w.heap.size,1,none⟩) (by simp)).trans (cell_of_row _ _ 1 _ _ _ (heap_new' w _));have q2:w1.cell? ⟨w.heap.size,2,none⟩=some (.int .i64 0):=(hr0.cell (p:=⟨w.heap.size,2,none⟩) (by simp)).trans (cell_of_row _ _ 2 _ _ _ (heap_new' w _));have q3:w1.cell? ⟨w.heap.size,3,none⟩=some (.bool false):=(hr0.cell (p:=⟨w.heap.size,3,none⟩) (by simp)).trans (cell_of_row _ _ 3 _ _ _ (heap_new' w _));have g0:∀j,w1.frozen? ⟨w.heap.size,j,none⟩=false:=λj=>(hr0.frozen (p:=⟨w.heap.size,j,none⟩) (by simp)).trans (frozen_new' w _ _ j)
   · have hR:isR R=false:=by rw [HRd.out];rfl
     have e1:errR R=1:=by simp [errR,hR]
     have HR1:Hid (isR R=false):=hR;clear hR ho1;go_wp2
     go_quiet (fail)
     go_wp2;refine bodyPost_ret (v := .agg #[.int .i64 65533,.int .i64 0,.int .i64 1,.bool true]) (by simp [results,Tryz.results86,go_sem,q0,q1,q2,q3]) rfl ⟨congrArg Ending.returned (firstV_bad (HR.out.trans HRd.out.symm) HN.out (.inl HR1.out)).symm,?_⟩;exact ((((below_drewN' hBw _).setCell (p:=⟨w.heap.size,0,none⟩) (Nat.le_refl _) _).setCell (p:=⟨w.heap.size,1,none⟩) (Nat.le_refl _) _).setCell (p:=⟨w.heap.size,2,none⟩) (Nat.le_refl _) _).setCell (p:=⟨w.heap.size,3,none⟩) (Nat.le_refl _) _
 · go_enter Tryz.func86,Tryz.ntmps86
   go_wp2_with fail
   refine (refEncode_any _ _).mono ?_;rintro e' w1 ⟨v1,rfl,ho1,hB1⟩;clear k0;obtain ⟨R,hRd⟩ :∃R:Int,R=-1:=⟨_,rfl⟩;rw [<- hRd] at ho1 ⊢;have HRd:Hid (R=-1):=hRd;clear hRd;have hr0:Below (w.heap.size+1) (w.alloc (.cells #[.int .i64 0,.int .i64 0,.int .i64 0,.bool false] 83)) w1:=by
    have:=hB1;simp only [World.size_alloc] at this
    first | exact this | exact below_undrew this
   clear hB1;have hBw:Below w.heap.size w w1:=((Below.refl _ w).alloc (Nat.le_refl _) _).trans (hr0.mono (by omega));have q0:w1.cell? ⟨w.heap.size,0,none⟩=some (.int .i64 0):=(hr0.cell (p:=⟨w.heap.size,0,none⟩) (by simp)).trans (cell_of_row _ _ 0 _ _ _ (heap_new' w _));have q1:w1.cell? ⟨w.heap.size,1,none⟩=some (.int .i64 0):=(hr0.cell (p:=⟨w.heap.size,1,none⟩) (by simp)).trans (cell_of_row _ _ 1 _ _ _ (heap_new' w _));have q2:w1.cell? ⟨w.heap.size,2,none⟩=some (.int .i64 0):=(hr0.cell (p:=⟨w.heap.size,2,none⟩) (by simp)).trans (cell_of_row _ _ 2 _ _ _ (heap_new' w _));have q3:w1.cell? ⟨w.heap.size,3,none⟩=some (.bool false):=(hr0.cell (p:=⟨w.heap.size,3,none⟩) (by simp)).trans (cell_of_row _ _ 3 _ _ _ (heap_new' w _));have g0:∀j,w1.frozen? ⟨w.heap.size,j,none⟩=false:=λj=>(hr0.frozen (p:=⟨w.heap.size,j,none⟩) (by simp)).trans (frozen_new' w _ _ j)
   · have hR:isR R=false:=by rw [HRd.out];rfl
     have e1:errR R=1:=by simp [errR,hR]
     have HR1:Hid (isR R=false):=hR;clear hR ho1;go_wp2
     go_quiet (fail)
     go_wp2;refine bodyPost_ret (v := .agg #[.int .i64 65533,.int .i64 0,.int .i64 1,.bool true]) (by simp [results,Tryz.results86,go_sem,q0,q1,q2,q3]) rfl ⟨congrArg Ending.returned (firstV_bad (HR.out.trans HRd.out.symm) HN.out (.inl HR1.out)).symm,?_⟩;exact ((((below_drewN' hBw _).setCell (p:=⟨w.heap.size,0,none⟩) (Nat.le_refl _) _).setCell (p:=⟨w.heap.size,1,none⟩) (Nat.le_refl _) _).setCell (p:=⟨w.heap.size,2,none⟩) (Nat.le_refl _) _).setCell (p:=⟨w.heap.size,3,none⟩) (Nat.le_refl _) _
 · go_enter Tryz.func86,Tryz.ntmps86
   go_wp2_with fail
   refine (refEncode_any _ _).mono ?_;rintro e' w1 ⟨v1,rfl,ho1,hB1⟩;clear k0;obtain ⟨R,hRd⟩ :∃R:Int,R=-1:=⟨_,rfl⟩;rw [<- hRd] at ho1 ⊢;have HRd:Hid (R=-1):=hRd;clear hRd;have hr0:Below (w.heap.size+1) (w.alloc (.cells #[.int .i64 0,.int .i64 0,.int .i64 0,.bool false] 83)) w1:=by
    have:=hB1;simp only [World.size_alloc] at this
    first | exact this | exact below_undrew this
   clear hB1;have hBw:Below w.heap.size w w1:=((Below.refl _ w).alloc (Nat.le_refl _) _).trans (hr0.mono (by omega));have q0:w1.cell? ⟨w.heap.size,0,none⟩=some (.int .i64 0):=(hr0.cell (p:=⟨w.heap.size,0,none⟩) (by simp)).trans (cell_of_row _ _ 0 _ _ _ (heap_new' w _));have q1:w1.cell? ⟨w.heap.size,1,none⟩=some (.int .i64 0):=(hr0.cell (p:=⟨w.heap.size,1,none⟩) (by simp)).trans (cell_of_row _ _ 1 _ _ _ (heap_new' w _));have q2:w1.cell? ⟨w.heap.size,2,none⟩=some (.int .i64 0):=(hr0.cell (p:=⟨w.heap.size,2,none⟩) (by simp)).trans (cell_of_row _ _ 2 _ _ _ (heap_new' w _));have q3:w1.cell? ⟨w.heap.size,3,none⟩=some (.bool false):=(hr0.cell (p:=⟨w.heap.size,3,none⟩) (by simp)).trans (cell_of_row _ _ 3 _ _ _ (heap_new' w _));have g0:∀j,w1.frozen? ⟨w.heap.size,j,none⟩=false:=λj=>(hr0.frozen (p:=⟨w.heap.size,j,none⟩) (by simp)).trans (frozen_new' w _ _ j)
   · have hR:isR R=false:=by rw [HRd.out];rfl
     have e1:errR R=1:=by simp [errR,hR]
     have HR1:Hid (isR R=false):=hR;clear hR ho1;go_wp2
     go_quiet (fail)
     go_wp2;refine bodyPost_ret (v := .agg #[.int .i64 65533,.int .i64 0,.int .i64 1,.bool true]) (by simp [results,Tryz.results86,go_sem,q0,q1,q2,q3]) rfl ⟨congrArg Ending.returned (firstV_bad (HR.out.trans HRd.out.symm) HN.out (.inl HR1.out)).symm,?_⟩;exact ((((below_drewN' hBw _).setCell (p:=⟨w.heap.size,0,none⟩) (Nat.le_refl _) _).setCell (p:=⟨w.heap.size,1,none⟩) (Nat.le_refl _) _).setCell (p:=⟨w.heap.size,2,none⟩) (Nat.le_refl _) _).setCell (p:=⟨w.heap.size,3,none⟩) (Nat.le_refl _) _
theorem first_1 (c:Int) (t:List Int) (hl:Byt (c::t)) (h2:c<128) (L:Nat) (hL:L=(c::t).length) (hlen:L<=10000) (b off cap:Nat) (hcap:L<=cap) (w:World) (hb:b<w.heap.size)
 (hcell:∀j,j<(c::t).length->w.cell? ⟨b,off+j,none⟩=some (.int .u8 ((c::t)[j]?.getD 0))) :
 Calls Tryz.prog 86 #[.slice (some ⟨b,off,none⟩) L cap] w λe w'=>e = .returned (firstV (c::t))/\Below w.heap.size w w':=by
 have hc:=hl c (by simp);have k0:∀o,(w.alloc o).cell? ⟨b,off,none⟩=some (.int .u8 c):=λo=>(cell_same' w o b _ hb).trans (hcell 0 (by simp));have hR0:candR (c::t)=c:=by simp only [candR];rw [if_pos h2]
 have hN0:candN (c::t)=1:=by simp only [candN];rw [if_pos h2]
 have HR:Hid (candR (c::t)=c):=hR0;have HN:Hid (candN (c::t)=1):=hN0;have hLn:1<=L:=by rw [hL];simp
 have HC:Hid (∀j,j<(c::t).length->w.cell? ⟨b,off+j,none⟩=some (.int .u8 ((c::t)[j]?.getD 0))):=hcell;have HLn:Hid (L=(c::t).length):=hL;have HLB:Hid (Byt (c::t)):=hl;clear hcell hL hl hR0 hN0;go_enter Tryz.func86,Tryz.ntmps86
 go_wp2_with fail
 refine (refEncode_any _ _).mono ?_;rintro e' w1 ⟨v1,rfl,ho1,hB1⟩;clear k0;obtain ⟨R,hRd⟩ :∃R:Int,R=c:=⟨_,rfl⟩;rw [<- hRd] at ho1 ⊢;have HRd:Hid (R=c):=hRd;clear hRd;have hr0:Below (w.heap.size+1) (w.alloc (.cells #[.int .i64 0,.int .i64 0,.int .i64 0,.bool false] 83)) w1:=by
  have:=hB1;simp only [World.size_alloc] at this
  first | exact this | exact below_undrew this
 clear hB1;have hBw:Below w.heap.size w w1:=((Below.refl _ w).alloc (Nat.le_refl _) _).trans (hr0.mono (by omega));have q0:w1.cell? ⟨w.heap.size,0,none⟩=some (.int .i64 0):=(hr0.cell (p:=⟨w.heap.size,0,none⟩) (by simp)).trans (cell_of_row _ _ 0 _ _ _ (heap_new' w _));have q1:w1.cell? ⟨w.heap.size,1,none⟩=some (.int .i64 0):=(hr0.cell (p:=⟨w.heap.size,1,none⟩) (by simp)).trans (cell_of_row _ _ 1 _ _ _ (heap_new' w _));have q2:w1.cell? ⟨w.heap.size,2,none⟩=some (.int .i64 0):=(hr0.cell (p:=⟨w.heap.size,2,none⟩) (by simp)).trans (cell_of_row _ _ 2 _ _ _ (heap_new' w _));have q3:w1.cell? ⟨w.heap.size,3,none⟩=some (.bool false):=(hr0.cell (p:=⟨w.heap.size,3,none⟩) (by simp)).trans (cell_of_row _ _ 3 _ _ _ (heap_new' w _));have g0:∀j,w1.frozen? ⟨w.heap.size,j,none⟩=false:=λj=>(hr0.frozen (p:=⟨w.heap.size,j,none⟩) (by simp)).trans (frozen_new' w _ _ j);by_cases hR:isR R=true
 · have e1:errR R=0:=by simp [errR,hR]
   have e2:encL R=encR R:=by simp [encL,hR]
   rw [e2] at ho1;have cv1:∀k,(convert 22 9 v1).run Tryz.prog (w1.drewN k) = .ok (.string (strOfNums (encR R))) (w1.drewN k):=λk=>(ho1.drewN k).convert;have cv2:∀k,(convert 22 9 (.slice (some ⟨b,off,none⟩) 1 cap)).run Tryz.prog (w1.drewN k) = .ok (.string (strOfNums ((c::t).take 1))) (w1.drewN k):=λk =>
    convert_cut _ 1 (by rw [<- HLn.out];omega) b off cap _ (λj hj=>by rw [cell_drewN,hBw.cell (p:=⟨b,off+j,none⟩) hb];exact HC.out j hj)
   have hs:=strOfNums_eq (λc hc=>encR_byte hR c hc) (byt_take HLB.out 1);obtain ⟨T,hT⟩ :∃T,T=(c::t).take 1:=⟨_,rfl⟩;rw [<- hT] at cv2 hs;have HT:Hid (T=(c::t).take 1):=hT;obtain ⟨E,hE⟩ :∃E,E=encR R:=⟨_,rfl⟩;rw [<- hE] at cv1 hs;have HE:Hid (E=encR R):=hE;have HR1:Hid (isR R=true):=hR;clear hT hE hR e2 ho1;have hn0:(0:Int)<=1:=by omega
   have hn1:(1:Int)<=(cap:Int):=by omega
   by_cases hq:E=T
   · have hs1:((strOfNums E).toList==(strOfNums T).toList)=true:=by rw [hs];simpa using hq
     have HQ:Hid (E=T):=hq;clear hs hq;go_wp2
     go_quiet (fail)
     go_wp2;refine bodyPost_ret (v := .agg #[.int .i64 R,.int .i64 0,.int .i64 1,.bool false]) (by simp [results,Tryz.results86,go_sem,q0,q1,q2,q3]) rfl ⟨congrArg Ending.returned (firstV_good (HR.out.trans HRd.out.symm) HN.out HR1.out (HE.out.symm.trans (HQ.out.trans HT.out))).symm,?_⟩;exact ((((below_drewN' hBw _).setCell (p:=⟨w.heap.size,0,none⟩) (Nat.le_refl _) _).setCell (p:=⟨w.heap.size,1,none⟩) (Nat.le_refl _) _).setCell (p:=⟨w.heap.size,2,none⟩) (Nat.le_refl _) _).setCell (p:=⟨w.heap.size,3,none⟩) (Nat.le_refl _) _
   · have hs1:((strOfNums E).toList==(strOfNums T).toList)=false:=by rw [hs];simpa using hq
     have HQ:Hid (¬E=T):=hq;clear hs hq;go_wp2
     go_quiet (fail)
     go_wp2;refine bodyPost_ret (v := .agg #[.int .i64 65533,.int .i64 0,.int .i64 1,.bool true]) (by simp [results,Tryz.results86,go_sem,q0,q1,q2,q3]) rfl ⟨congrArg Ending.returned (firstV_bad (HR.out.trans HRd.out.symm) HN.out (.inr λq=>HQ.out (HE.out.trans (q.trans HT.out.symm)))).symm,?_⟩;exact ((((below_drewN' hBw _).setCell (p:=⟨w.heap.size,0,none⟩) (Nat.le_refl _) _).setCell (p:=⟨w.heap.size,1,none⟩) (Nat.le_refl _) _).setCell (p:=⟨w.heap.size,2,none⟩) (Nat.le_refl _) _).setCell (p:=⟨w.heap.size,3,none⟩) (Nat.le_refl _) _
 · have e1:errR R=1:=by simp [errR,hR]
   have hR':isR R=false:=by simpa using hR
   have HR1:Hid (isR R=false):=hR';clear hR hR' ho1;go_wp2
   go_quiet (fail)
   go_wp2;refine bodyPost_ret (v := .agg #[.int .i64 65533,.int .i64 0,.int .i64 1,.bool true]) (by simp [results,Tryz.results86,go_sem,q0,q1,q2,q3]) rfl ⟨congrArg Ending.returned (firstV_bad (HR.out.trans HRd.out.symm) HN.out (.inl HR1.out)).symm,?_⟩;exact ((((below_drewN' hBw _).setCell (p:=⟨w.heap.size,0,none⟩) (Nat.le_refl _) _).setCell (p:=⟨w.heap.size,1,none⟩) (Nat.le_refl _) _).setCell (p:=⟨w.heap.size,2,none⟩) (Nat.le_refl _) _).setCell (p:=⟨w.heap.size,3,none⟩) (Nat.le_refl _) _
theorem first_2 (c d:Int) (t:List Int) (hl:Byt (c::d::t)) (h1:192<=c) (h2:c<224) (L:Nat) (hL:L=(c::d::t).length) (hlen:L<=10000) (b off cap:Nat) (hcap:L<=cap) (w:World) (hb:b<w.heap.size)
 (hcell:∀j,j<(c::d::t).length->w.cell? ⟨b,off+j,none⟩=some (.int .u8 ((c::d::t)[j]?.getD 0))) :
 Calls Tryz.prog 86 #[.slice (some ⟨b,off,none⟩) L cap] w λe w'=>e = .returned (firstV (c::d::t))/\Below w.heap.size w w':=by
 have hc:=hl c (by simp);have hd:=hl d (by simp);have k0:∀o,(w.alloc o).cell? ⟨b,off,none⟩=some (.int .u8 c):=λo=>(cell_same' w o b _ hb).trans (hcell 0 (by simp));have k1:∀o,(w.alloc o).cell? ⟨b,off+1,none⟩=some (.int .u8 d):=λo=>(cell_same' w o b _ hb).trans (hcell 1 (by simp));have hR0:candR (c::d::t)=(c-192)*64+d % 64:=by simp only [candR,List.length_cons,List.getD_cons_zero];rw [if_neg (by omega),if_pos (by omega)]
 have hN0:candN (c::d::t)=2:=by simp only [candN,List.length_cons];rw [if_neg (by omega),if_pos (by omega)]
 have HR:Hid (candR (c::d::t)=(c-192)*64+d % 64):=hR0;have HN:Hid (candN (c::d::t)=2):=hN0;have hLn:2<=L:=by rw [hL];simp
 have HC:Hid (∀j,j<(c::d::t).length->w.cell? ⟨b,off+j,none⟩=some (.int .u8 ((c::d::t)[j]?.getD 0))):=hcell;have HLn:Hid (L=(c::d::t).length):=hL;have HLB:Hid (Byt (c::d::t)):=hl;clear hcell hL hl hR0 hN0;go_enter Tryz.func86,Tryz.ntmps86
 go_wp2_with (go_at_call 120;refine (low_any _ (by omega) (by omega) _).mono ?_;rintro e' w' ⟨rfl,rfl⟩)
 refine (refEncode_any _ _).mono ?_;rintro e' w1 ⟨v1,rfl,ho1,hB1⟩;clear k0 k1;obtain ⟨R,hRd⟩ :∃R:Int,R=(c-192)*64+d % 64:=⟨_,rfl⟩;rw [<- hRd] at ho1 ⊢;have HRd:Hid (R=(c-192)*64+d % 64):=hRd;clear hRd;have hr0:Below (w.heap.size+1) (w.alloc (.cells #[.int .i64 0,.int .i64 0,.int .i64 0,.bool false] 83)) w1:=by
  have:=hB1;simp only [World.size_alloc] at this
  first | exact this | exact below_undrew this
 clear hB1;have hBw:Below w.heap.size w w1:=((Below.refl _ w).alloc (Nat.le_refl _) _).trans (hr0.mono (by omega));have q0:w1.cell? ⟨w.heap.size,0,none⟩=some (.int .i64 0):=(hr0.cell (p:=⟨w.heap.size,0,none⟩) (by simp)).trans (cell_of_row _ _ 0 _ _ _ (heap_new' w _));have q1:w1.cell? ⟨w.heap.size,1,none⟩=some (.int .i64 0):=(hr0.cell (p:=⟨w.heap.size,1,none⟩) (by simp)).trans (cell_of_row _ _ 1 _ _ _ (heap_new' w _));have q2:w1.cell? ⟨w.heap.size,2,none⟩=some (.int .i64 0):=(hr0.cell (p:=⟨w.heap.size,2,none⟩) (by simp)).trans (cell_of_row _ _ 2 _ _ _ (heap_new' w _));have q3:w1.cell? ⟨w.heap.size,3,none⟩=some (.bool false):=(hr0.cell (p:=⟨w.heap.size,3,none⟩) (by simp)).trans (cell_of_row _ _ 3 _ _ _ (heap_new' w _));have g0:∀j,w1.frozen? ⟨w.heap.size,j,none⟩=false:=λj=>(hr0.frozen (p:=⟨w.heap.size,j,none⟩) (by simp)).trans (frozen_new' w _ _ j);by_cases hR:isR R=true
 · have e1:errR R=0:=by simp [errR,hR]
   have e2:encL R=encR R:=by simp [encL,hR]
   rw [e2] at ho1;have cv1:∀k,(convert 22 9 v1).run Tryz.prog (w1.drewN k) = .ok (.string (strOfNums (encR R))) (w1.drewN k):=λk=>(ho1.drewN k).convert;have cv2:∀k,(convert 22 9 (.slice (some ⟨b,off,none⟩) 2 cap)).run Tryz.prog (w1.drewN k) = .ok (.string (strOfNums ((c::d::t).take 2))) (w1.drewN k):=λk =>
    convert_cut _ 2 (by rw [<- HLn.out];omega) b off cap _ (λj hj=>by rw [cell_drewN,hBw.cell (p:=⟨b,off+j,none⟩) hb];exact HC.out j hj)
   have hs:=strOfNums_eq (λc hc=>encR_byte hR c hc) (byt_take HLB.out 2);obtain ⟨T,hT⟩ :∃T,T=(c::d::t).take 2:=⟨_,rfl⟩;rw [<- hT] at cv2 hs;have HT:Hid (T=(c::d::t).take 2):=hT;obtain ⟨E,hE⟩ :∃E,E=encR R:=⟨_,rfl⟩;rw [<- hE] at cv1 hs;have HE:Hid (E=encR R):=hE;have HR1:Hid (isR R=true):=hR;clear hT hE hR e2 ho1;have hn0:(0:Int)<=2:=by omega
   have hn1:(2:Int)<=(cap:Int):=by omega
   by_cases hq:E=T
   · have hs1:((strOfNums E).toList==(strOfNums T).toList)=true:=by rw [hs];simpa using hq
     have HQ:Hid (E=T):=hq;clear hs hq;go_wp2
     go_quiet (fail)
     go_wp2;refine bodyPost_ret (v := .agg #[.int .i64 R,.int .i64 0,.int .i64 2,.bool false]) (by simp [results,Tryz.results86,go_sem,q0,q1,q2,q3]) rfl ⟨congrArg Ending.returned (firstV_good (HR.out.trans HRd.out.symm) HN.out HR1.out (HE.out.symm.trans (HQ.out.trans HT.out))).symm,?_⟩;exact ((((below_drewN' hBw _).setCell (p:=⟨w.heap.size,0,none⟩) (Nat.le_refl _) _).setCell (p:=⟨w.heap.size,1,none⟩) (Nat.le_refl _) _).setCell (p:=⟨w.heap.size,2,none⟩) (Nat.le_refl _) _).setCell (p:=⟨w.heap.size,3,none⟩) (Nat.le_refl _) _
   · have hs1:((strOfNums E).toList==(strOfNums T).toList)=false:=by rw [hs];simpa using hq
     have HQ:Hid (¬E=T):=hq;clear hs hq;go_wp2
     go_quiet (fail)
     go_wp2;refine bodyPost_ret (v := .agg #[.int .i64 65533,.int .i64 0,.int .i64 1,.bool true]) (by simp [results,Tryz.results86,go_sem,q0,q1,q2,q3]) rfl ⟨congrArg Ending.returned (firstV_bad (HR.out.trans HRd.out.symm) HN.out (.inr λq=>HQ.out (HE.out.trans (q.trans HT.out.symm)))).symm,?_⟩;exact ((((below_drewN' hBw _).setCell (p:=⟨w.heap.size,0,none⟩) (Nat.le_refl _) _).setCell (p:=⟨w.heap.size,1,none⟩) (Nat.le_refl _) _).setCell (p:=⟨w.heap.size,2,none⟩) (Nat.le_refl _) _).setCell (p:=⟨w.heap.size,3,none⟩) (Nat.le_refl _) _
 · have e1:errR R=1:=by simp [errR,hR]
   have hR':isR R=false:=by simpa using hR
   have HR1:Hid (isR R=false):=hR';clear hR hR' ho1;go_wp2
   go_quiet (fail)
   go_wp2;refine bodyPost_ret (v := .agg #[.int .i64 65533,.int .i64 0,.int .i64 1,.bool true]) (by simp [results,Tryz.results86,go_sem,q0,q1,q2,q3]) rfl ⟨congrArg Ending.returned (firstV_bad (HR.out.trans HRd.out.symm) HN.out (.inl HR1.out)).symm,?_⟩;exact ((((below_drewN' hBw _).setCell (p:=⟨w.heap.size,0,none⟩) (Nat.le_refl _) _).setCell (p:=⟨w.heap.size,1,none⟩) (Nat.le_refl _) _).setCell (p:=⟨w.heap.size,2,none⟩) (Nat.le_refl _) _).setCell (p:=⟨w.heap.size,3,none⟩) (Nat.le_refl _) _
theorem first_3 (c d x:Int) (t:List Int) (hl:Byt (c::d::x::t)) (h1:224<=c) (h2:c<240) (L:Nat) (hL:L=(c::d::x::t).length) (hlen:L<=10000) (b off cap:Nat) (hcap:L<=cap) (w:World) (hb:b<w.heap.size)
 (hcell:∀j,j<(c::d::x::t).length->w.cell? ⟨b,off+j,none⟩=some (.int .u8 ((c::d::x::t)[j]?.getD 0))) :
 Calls Tryz.prog 86 #[.slice (some ⟨b,off,none⟩) L cap] w λe w'=>e = .returned (firstV (c::d::x::t))/\Below w.heap.size w w':=by
 have hc:=hl c (by simp);have hd:=hl d (by simp);have hx:=hl x (by simp);have k0:∀o,(w.alloc o).cell? ⟨b,off,none⟩=some (.int .u8 c):=λo=>(cell_same' w o b _ hb).trans (hcell 0 (by simp));have k1:∀o,(w.alloc o).cell? ⟨b,off+1,none⟩=some (.int .u8 d):=λo=>(cell_same' w o b _ hb).trans (hcell 1 (by simp));have k2:∀o,(w.alloc o).cell? ⟨b,off+2,none⟩=some (.int .u8 x):=λo=>(cell_same' w o b _ hb).trans (hcell 2 (by simp));have hR0:candR (c::d::x::t)=(c-224)*4096+d % 64*64+x % 64:=by simp only [candR,List.length_cons,List.getD_cons_zero,List.getD_cons_succ];rw [if_neg (by omega),if_neg (by omega),if_pos (by omega)]
 have hN0:candN (c::d::x::t)=3:=by simp only [candN,List.length_cons];rw [if_neg (by omega),if_neg (by omega),if_pos (by omega)]
 have HR:Hid (candR (c::d::x::t)=(c-224)*4096+d % 64*64+x % 64):=hR0;have HN:Hid (candN (c::d::x::t)=3):=hN0;have hLn:3<=L:=by rw [hL];simp
 have HC:Hid (∀j,j<(c::d::x::t).length->w.cell? ⟨b,off+j,none⟩=some (.int .u8 ((c::d::x::t)[j]?.getD 0))):=hcell;have HLn:Hid (L=(c::d::x::t).length):=hL;have HLB:Hid (Byt (c::d::x::t)):=hl;clear hcell hL hl hR0 hN0;go_enter Tryz.func86,Tryz.ntmps86;go_wp2
 go_quiet ((go_at_call 120;exact Calls.quiet_of_same (low_any _ (by omega) (by omega) _)))
 go_wp2_with fail
 refine (refEncode_any _ _).mono ?_;rintro e' w1 ⟨v1,rfl,ho1,hB1⟩;clear k0 k1 k2;obtain ⟨R,hRd⟩ :∃R:Int,R=(c-224)*4096+d % 64*64+x % 64:=⟨_,rfl⟩;rw [<- hRd] at ho1 ⊢;have HRd:Hid (R=(c-224)*4096+d % 64*64+x % 64):=hRd;clear hRd;have hr0:Below (w.heap.size+1) (w.alloc (.cells #[.int .i64 0,.int .i64 0,.int .i64 0,.bool false] 83)) w1:=by
  have:=hB1;simp only [size_drewN,World.size_alloc] at this
  first | exact this | exact below_undrew this
 clear hB1;have hBw:Below w.heap.size w w1:=((Below.refl _ w).alloc (Nat.le_refl _) _).trans (hr0.mono (by omega));have q0:w1.cell? ⟨w.heap.size,0,none⟩=some (.int .i64 0):=(hr0.cell (p:=⟨w.heap.size,0,none⟩) (by simp)).trans (cell_of_row _ _ 0 _ _ _ (heap_new' w _));have q1:w1.cell? ⟨w.heap.size,1,none⟩=some (.int .i64 0):=(hr0.cell (p:=⟨w.heap.size,1,none⟩) (by simp)).trans (cell_of_row _ _ 1 _ _ _ (heap_new' w _));have q2:w1.cell? ⟨w.heap.size,2,none⟩=some (.int .i64 0):=(hr0.cell (p:=⟨w.heap.size,2,none⟩) (by simp)).trans (cell_of_row _ _ 2 _ _ _ (heap_new' w _));have q3:w1.cell? ⟨w.heap.size,3,none⟩=some (.bool false):=(hr0.cell (p:=⟨w.heap.size,3,none⟩) (by simp)).trans (cell_of_row _ _ 3 _ _ _ (heap_new' w _));have g0:∀j,w1.frozen? ⟨w.heap.size,j,none⟩=false:=λj=>(hr0.frozen (p:=⟨w.heap.size,j,none⟩) (by simp)).trans (frozen_new' w _ _ j);by_cases hR:isR R=true
 · have e1:errR R=0:=by simp [errR,hR]
   have e2:encL R=encR R:=by simp [encL,hR]
   rw [e2] at ho1;have cv1:∀k,(convert 22 9 v1).run Tryz.prog (w1.drewN k) = .ok (.string (strOfNums (encR R))) (w1.drewN k):=λk=>(ho1.drewN k).convert;have cv2:∀k,(convert 22 9 (.slice (some ⟨b,off,none⟩) 3 cap)).run Tryz.prog (w1.drewN k) = .ok (.string (strOfNums ((c::d::x::t).take 3))) (w1.drewN k):=λk =>
    convert_cut _ 3 (by rw [<- HLn.out];omega) b off cap _ (λj hj=>by rw [cell_drewN,hBw.cell (p:=⟨b,off+j,none⟩) hb];exact HC.out j hj)
   have hs:=strOfNums_eq (λc hc=>encR_byte hR c hc) (byt_take HLB.out 3);obtain ⟨T,hT⟩ :∃T,T=(c::d::x::t).take 3:=⟨_,rfl⟩;rw [<- hT] at cv2 hs;have HT:Hid (T=(c::d::x::t).take 3):=hT;obtain ⟨E,hE⟩ :∃E,E=encR R:=⟨_,rfl⟩;rw [<- hE] at cv1 hs;have HE:Hid (E=encR R):=hE;have HR1:Hid (isR R=true):=hR;clear hT hE hR e2 ho1;have hn0:(0:Int)<=3:=by omega
   have hn1:(3:Int)<=(cap:Int):=by omega
   by_cases hq:E=T
   · have hs1:((strOfNums E).toList==(strOfNums T).toList)=true:=by rw [hs];simpa using hq
     have HQ:Hid (E=T):=hq;clear hs hq;go_wp2
     go_quiet (fail)
     go_wp2;refine bodyPost_ret (v := .agg #[.int .i64 R,.int .i64 0,.int .i64 3,.bool false]) (by simp [results,Tryz.results86,go_sem,q0,q1,q2,q3]) rfl ⟨congrArg Ending.returned (firstV_good (HR.out.trans HRd.out.symm) HN.out HR1.out (HE.out.symm.trans (HQ.out.trans HT.out))).symm,?_⟩;exact ((((below_drewN' hBw _).setCell (p:=⟨w.heap.size,0,none⟩) (Nat.le_refl _) _).setCell (p:=⟨w.heap.size,1,none⟩) (Nat.le_refl _) _).setCell (p:=⟨w.heap.size,2,none⟩) (Nat.le_refl _) _).setCell (p:=⟨w.heap.size,3,none⟩) (Nat.le_refl _) _
   · have hs1:((strOfNums E).toList==(strOfNums T).toList)=false:=by rw [hs];simpa using hq
     have HQ:Hid (¬E=T):=hq;clear hs hq;go_wp2
     go_quiet (fail)
     go_wp2;refine bodyPost_ret (v := .agg #[.int .i64 65533,.int .i64 0,.int .i64 1,.bool true]) (by simp [results,Tryz.results86,go_sem,q0,q1,q2,q3]) rfl ⟨congrArg Ending.returned (firstV_bad (HR.out.trans HRd.out.symm) HN.out (.inr λq=>HQ.out (HE.out.trans (q.trans HT.out.symm)))).symm,?_⟩;exact ((((below_drewN' hBw _).setCell (p:=⟨w.heap.size,0,none⟩) (Nat.le_refl _) _).setCell (p:=⟨w.heap.size,1,none⟩) (Nat.le_refl _) _).setCell (p:=⟨w.heap.size,2,none⟩) (Nat.le_refl _) _).setCell (p:=⟨w.heap.size,3,none⟩) (Nat.le_refl _) _
 · have e1:errR R=1:=by simp [errR,hR]
   have hR':isR R=false:=by simpa using hR
   have HR1:Hid (isR R=false):=hR';clear hR hR' ho1;go_wp2
   go_quiet (fail)
   go_wp2;refine bodyPost_ret (v := .agg #[.int .i64 65533,.int .i64 0,.int .i64 1,.bool true]) (by simp [results,Tryz.results86,go_sem,q0,q1,q2,q3]) rfl ⟨congrArg Ending.returned (firstV_bad (HR.out.trans HRd.out.symm) HN.out (.inl HR1.out)).symm,?_⟩;exact ((((below_drewN' hBw _).setCell (p:=⟨w.heap.size,0,none⟩) (Nat.le_refl _) _).setCell (p:=⟨w.heap.size,1,none⟩) (Nat.le_refl _) _).setCell (p:=⟨w.heap.size,2,none⟩) (Nat.le_refl _) _).setCell (p:=⟨w.heap.size,3,none⟩) (Nat.le_refl _) _
theorem first_4 (c d x y:Int) (t:List Int) (hl:Byt (c::d::x::y::t)) (h1:240<=c) (h2:c<248) (L:Nat) (hL:L=(c::d::x::y::t).length) (hlen:L<=10000) (b off cap:Nat) (hcap:L<=cap) (w:World) (hb:b<w.heap.size)
 (hcell:∀j,j<(c::d::x::y::t).length->w.cell? ⟨b,off+j,none⟩=some (.int .u8 ((c::d::x::y::t)[j]?.getD 0))) :
 Calls Tryz.prog 86 #[.slice (some ⟨b,off,none⟩) L cap] w λe w'=>e = .returned (firstV (c::d::x::y::t))/\Below w.heap.size w w':=by
 have hc:=hl c (by simp);have hd:=hl d (by simp);have hx:=hl x (by simp);have hy:=hl y (by simp);have k0:∀o,(w.alloc o).cell? ⟨b,off,none⟩=some (.int .u8 c):=λo=>(cell_same' w o b _ hb).trans (hcell 0 (by simp));have k1:∀o,(w.alloc o).cell? ⟨b,off+1,none⟩=some (.int .u8 d):=λo=>(cell_same' w o b _ hb).trans (hcell 1 (by simp));have k2:∀o,(w.alloc o).cell? ⟨b,off+2,none⟩=some (.int .u8 x):=λo=>(cell_same' w o b _ hb).trans (hcell 2 (by simp));have k3:∀o,(w.alloc o).cell? ⟨b,off+3,none⟩=some (.int .u8 y):=λo=>(cell_same' w o b _ hb).trans (hcell 3 (by simp));have hR0:candR (c::d::x::y::t)=(c-240)*262144+d % 64*4096+x % 64*64+y % 64:=by simp only [candR,List.length_cons,List.getD_cons_zero,List.getD_cons_succ];rw [if_neg (by omega),if_neg (by omega),if_neg (by omega),if_pos (by omega)]
 have hN0:candN (c::d::x::y::t)=4:=by simp only [candN,List.length_cons];rw [if_neg (by omega),if_neg (by omega),if_neg (by omega),if_pos (by omega)]
 have HR:Hid (candR (c::d::x::y::t)=(c-240)*262144+d % 64*4096+x % 64*64+y % 64):=hR0;have HN:Hid (candN (c::d::x::y::t)=4):=hN0;have hLn:4<=L:=by rw [hL];simp
 have HC:Hid (∀j,j<(c::d::x::y::t).length->w.cell? ⟨b,off+j,none⟩=some (.int .u8 ((c::d::x::y::t)[j]?.getD 0))):=hcell;have HLn:Hid (L=(c::d::x::y::t).length):=hL;have HLB:Hid (Byt (c::d::x::y::t)):=hl;clear hcell hL hl hR0 hN0;go_enter Tryz.func86,Tryz.ntmps86;go_wp2
 go_quiet ((go_at_call 120;exact Calls.quiet_of_same (low_any _ (by omega) (by omega) _)))
 go_wp2_with fail
 refine (refEncode_any _ _).mono ?_;rintro e' w1 ⟨v1,rfl,ho1,hB1⟩;clear k0 k1 k2 k3;obtain ⟨R,hRd⟩ :∃R:Int,R=(c-240)*262144+d % 64*4096+x % 64*64+y % 64:=⟨_,rfl⟩;rw [<- hRd] at ho1 ⊢;have HRd:Hid (R=(c-240)*262144+d % 64*4096+x % 64*64+y % 64):=hRd;clear hRd;have hr0:Below (w.heap.size+1) (w.alloc (.cells #[.int .i64 0,.int .i64 0,.int .i64 0,.bool false] 83)) w1:=by
  have:=hB1;simp only [size_drewN,World.size_alloc] at this
  first | exact this | exact below_undrew this
 clear hB1;have hBw:Below w.heap.size w w1:=((Below.refl _ w).alloc (Nat.le_refl _) _).trans (hr0.mono (by omega));have q0:w1.cell? ⟨w.heap.size,0,none⟩=some (.int .i64 0):=(hr0.cell (p:=⟨w.heap.size,0,none⟩) (by simp)).trans (cell_of_row _ _ 0 _ _ _ (heap_new' w _));have q1:w1.cell? ⟨w.heap.size,1,none⟩=some (.int .i64 0):=(hr0.cell (p:=⟨w.heap.size,1,none⟩) (by simp)).trans (cell_of_row _ _ 1 _ _ _ (heap_new' w _));have q2:w1.cell? ⟨w.heap.size,2,none⟩=some (.int .i64 0):=(hr0.cell (p:=⟨w.heap.size,2,none⟩) (by simp)).trans (cell_of_row _ _ 2 _ _ _ (heap_new' w _));have q3:w1.cell? ⟨w.heap.size,3,none⟩=some (.bool false):=(hr0.cell (p:=⟨w.heap.size,3,none⟩) (by simp)).trans (cell_of_row _ _ 3 _ _ _ (heap_new' w _));have g0:∀j,w1.frozen? ⟨w.heap.size,j,none⟩=false:=λj=>(hr0.frozen (p:=⟨w.heap.size,j,none⟩) (by simp)).trans (frozen_new' w _ _ j);by_cases hR:isR R=true
 · have e1:errR R=0:=by simp [errR,hR]
   have e2:encL R=encR R:=by simp [encL,hR]
   rw [e2] at ho1;have cv1:∀k,(convert 22 9 v1).run Tryz.prog (w1.drewN k) = .ok (.string (strOfNums (encR R))) (w1.drewN k):=λk=>(ho1.drewN k).convert;have cv2:∀k,(convert 22 9 (.slice (some ⟨b,off,none⟩) 4 cap)).run Tryz.prog (w1.drewN k) = .ok (.string (strOfNums ((c::d::x::y::t).take 4))) (w1.drewN k):=λk =>
    convert_cut _ 4 (by rw [<- HLn.out];omega) b off cap _ (λj hj=>by rw [cell_drewN,hBw.cell (p:=⟨b,off+j,none⟩) hb];exact HC.out j hj)
   have hs:=strOfNums_eq (λc hc=>encR_byte hR c hc) (byt_take HLB.out 4);obtain ⟨T,hT⟩ :∃T,T=(c::d::x::y::t).take 4:=⟨_,rfl⟩;rw [<- hT] at cv2 hs;have HT:Hid (T=(c::d::x::y::t).take 4):=hT;obtain ⟨E,hE⟩ :∃E,E=encR R:=⟨_,rfl⟩;rw [<- hE] at cv1 hs;have HE:Hid (E=encR R):=hE;have HR1:Hid (isR R=true):=hR;clear hT hE hR e2 ho1;have hn0:(0:Int)<=4:=by omega
   have hn1:(4:Int)<=(cap:Int):=by omega
   by_cases hq:E=T
   · have hs1:((strOfNums E).toList==(strOfNums T).toList)=true:=by rw [hs];simpa using hq
     have HQ:Hid (E=T):=hq;clear hs hq;go_wp2
     go_quiet (fail)
     go_wp2;refine bodyPost_ret (v := .agg #[.int .i64 R,.int .i64 0,.int .i64 4,.bool false]) (by simp [results,Tryz.results86,go_sem,q0,q1,q2,q3]) rfl ⟨congrArg Ending.returned (firstV_good (HR.out.trans HRd.out.symm) HN.out HR1.out (HE.out.symm.trans (HQ.out.trans HT.out))).symm,?_⟩;exact ((((below_drewN' hBw _).setCell (p:=⟨w.heap.size,0,none⟩) (Nat.le_refl _) _).setCell (p:=⟨w.heap.size,1,none⟩) (Nat.le_refl _) _).setCell (p:=⟨w.heap.size,2,none⟩) (Nat.le_refl _) _).setCell (p:=⟨w.heap.size,3,none⟩) (Nat.le_refl _) _
   · have hs1:((strOfNums E).toList==(strOfNums T).toList)=false:=by rw [hs];simpa using hq
     have HQ:Hid (¬E=T):=hq;clear hs hq;go_wp2
     go_quiet (fail)
     go_wp2;refine bodyPost_ret (v := .agg #[.int .i64 65533,.int .i64 0,.int .i64 1,.bool true]) (by simp [results,Tryz.results86,go_sem,q0,q1,q2,q3]) rfl ⟨congrArg Ending.returned (firstV_bad (HR.out.trans HRd.out.symm) HN.out (.inr λq=>HQ.out (HE.out.trans (q.trans HT.out.symm)))).symm,?_⟩;exact ((((below_drewN' hBw _).setCell (p:=⟨w.heap.size,0,none⟩) (Nat.le_refl _) _).setCell (p:=⟨w.heap.size,1,none⟩) (Nat.le_refl _) _).setCell (p:=⟨w.heap.size,2,none⟩) (Nat.le_refl _) _).setCell (p:=⟨w.heap.size,3,none⟩) (Nat.le_refl _) _
 · have e1:errR R=1:=by simp [errR,hR]
   have hR':isR R=false:=by simpa using hR
   have HR1:Hid (isR R=false):=hR';clear hR hR' ho1;go_wp2
   go_quiet (fail)
   go_wp2;refine bodyPost_ret (v := .agg #[.int .i64 65533,.int .i64 0,.int .i64 1,.bool true]) (by simp [results,Tryz.results86,go_sem,q0,q1,q2,q3]) rfl ⟨congrArg Ending.returned (firstV_bad (HR.out.trans HRd.out.symm) HN.out (.inl HR1.out)).symm,?_⟩;exact ((((below_drewN' hBw _).setCell (p:=⟨w.heap.size,0,none⟩) (Nat.le_refl _) _).setCell (p:=⟨w.heap.size,1,none⟩) (Nat.le_refl _) _).setCell (p:=⟨w.heap.size,2,none⟩) (Nat.le_refl _) _).setCell (p:=⟨w.heap.size,3,none⟩) (Nat.le_refl _) _
theorem first_any (l:List Int) (hl:Byt l) (h1:1<=l.length) (hlen:l.length<=10000) (b off cap L:Nat) (hL:L=l.length) (hcap:L<=cap) (w:World) (hb:b<w.heap.size)
 (hcell:∀j,j<l.length->w.cell? ⟨b,off+j,none⟩=some (.int .u8 (l[j]?.getD 0))) :
 Calls Tryz.prog 86 #[.slice (some ⟨b,off,none⟩) L cap] w λe w'=>e = .returned (firstV l)/\Below w.heap.size w w':=by
 match l,h1,hl,hlen,hL,hcell with
 | c::t,_,hl,hlen,hL,hcell =>
  by_cases q1:c<128
  · exact first_1 c t hl q1 L hL (by omega) b off cap hcap w hb hcell
  by_cases q2:c<192
  · exact first_0 c t hl (by omega) (.inl q2) L hL (by omega) b off cap hcap w hb hcell
  by_cases q3:c<224
  · match t,hl,hlen,hL,hcell with
    | [],hl,hlen,hL,hcell=>exact first_0 c [] hl (by omega) (.inr (.inr (.inl ⟨by omega,q3,by simp⟩))) L hL (by omega) b off cap hcap w hb hcell
    | d::t,hl,hlen,hL,hcell=>exact first_2 c d t hl (by omega) q3 L hL (by omega) b off cap hcap w hb hcell
  by_cases q4:c<240
  · match t,hl,hlen,hL,hcell with
    | [],hl,hlen,hL,hcell=>exact first_0 c [] hl (by omega) (.inr (.inr (.inr (.inl ⟨by omega,q4,by simp⟩)))) L hL (by omega) b off cap hcap w hb hcell
    | [d],hl,hlen,hL,hcell=>exact first_0 c [d] hl (by omega) (.inr (.inr (.inr (.inl ⟨by omega,q4,by simp⟩)))) L hL (by omega) b off cap hcap w hb hcell
    | d::x::t,hl,hlen,hL,hcell=>exact first_3 c d x t hl (by omega) q4 L hL (by omega) b off cap hcap w hb hcell
  by_cases q5:c<248
  · match t,hl,hlen,hL,hcell with
    | [],hl,hlen,hL,hcell=>exact first_0 c [] hl (by omega) (.inr (.inr (.inr (.inr ⟨by omega,q5,by simp⟩)))) L hL (by omega) b off cap hcap w hb hcell
    | [d],hl,hlen,hL,hcell=>exact first_0 c [d] hl (by omega) (.inr (.inr (.inr (.inr ⟨by omega,q5,by simp⟩)))) L hL (by omega) b off cap hcap w hb hcell
    | [d,x],hl,hlen,hL,hcell=>exact first_0 c [d,x] hl (by omega) (.inr (.inr (.inr (.inr ⟨by omega,q5,by simp⟩)))) L hL (by omega) b off cap hcap w hb hcell
    | d::x::y::t,hl,hlen,hL,hcell=>exact first_4 c d x y t hl (by omega) q5 L hL (by omega) b off cap hcap w hb hcell
  · exact first_0 c t hl (by omega) (.inr (.inl (by omega))) L hL (by omega) b off cap hcap w hb hcell
end Go.Proofs.YtfdjchnckjgapaaGreatDoor.S1
