/-
  Blanks Parse16 Num7
-/
import Derived.Test.YtfdjchnckjgapaaGreatDoorZ05
import Derived.Lib.ConvBytes
import Derived.Laws.BytesArg
import Derived.Laws.Strings3
import Derived.Laws.Closers25
import Derived.Laws.Closers25b
import Derived.BigCall
import Derived.BigGuard
import Derived.BigRegion
import Derived.RegionTactic
import Derived.Deep.RegionHeld3
import Derived.Lib.IfaceEq
namespace Go.Proofs.YtfdjchnckjgapaaGreatDoor
set_option maxHeartbeats 2000000
set_option maxRecDepth 100000
open Go.RowKit Go.Shelf S1
set_option linter.unusedVariables false
theorem blank_note:∀(us:List U),blankL true us=blankL false (us.dropWhile (fitU noteR))
 | []=>rfl
 | u::t=>by
  have ih:=blank_note t;cases hb:u.bad with
  | true =>
   have h1:fitU noteR u=false:=by simp [fitU,hb]
   rw [List.dropWhile_cons,h1];simp [blankL,hb]
  | false =>
   by_cases h10:u.r=10
   · have h1:fitU noteR u=false:=by simp [fitU,noteR,h10]
     rw [List.dropWhile_cons,h1];simp [blankL,hb,h10,blankR]
   · have h1:fitU noteR u=true:=by simp [fitU,noteR,h10,hb]
     rw [List.dropWhile_cons,h1];simp [blankL,hb,h10,ih]
theorem blank_step {us r:List U} {x:Int} (h:sgn blankR us=(some x,r)):blankL false us=blankL false r:=by
 obtain ⟨u,rfl,hf,_⟩:=sgn_some h;have hb:u.bad=false:=by simp [fitU] at hf;exact hf.1
 have hr:blankR u.r=true:=by simp [fitU] at hf;exact hf.2
 have h35:u.r≠35:=λe=>by rw [e] at hr;simp [blankR] at hr
 simp [blankL,hb,hr,h35]
theorem blank_hash {us r:List U} {x:Int} (h:sgn (isC 35) us=(some x,r)):blankL false us=blankL false (r.dropWhile (fitU noteR)):=by
 obtain ⟨u,rfl,hf,_⟩:=sgn_some h;have hb:u.bad=false:=by simp [fitU] at hf;exact hf.1
 have hr:u.r=35:=by simp [fitU,isC] at hf;exact hf.2
 rw [<- blank_note];simp [blankL,hb,hr]
theorem blank_none {us a b:List U} (h:sgn blankR us=(none,a)) (h2:sgn (isC 35) us=(none,b)):blankL false us=us:=by
 match us,h,h2 with
 | [],_,_=>rfl
 | u::t,h,h2 =>
  obtain ⟨_,e | ⟨u1,t1,e,q1⟩⟩:=sgn_none h
  · cases e
  obtain ⟨_,e2 | ⟨u2,t2,e2,q2⟩⟩:=sgn_none h2
  · cases e2
  injection e with e3 e4
  injection e2 with e5 e6
  rw [<- e3] at q1;rw [<- e5] at q2;simp [fitU] at q1 q2;cases hb:u.bad with
  | true=>simp [blankL,hb]
  | false =>
   have k1:=q1 hb;have k2:=q2 hb;have k3:u.r≠35:=λe=>by rw [e] at k2;simp [isC] at k2
   simp [blankL,hb,k1,k3]
theorem takeBlanks_any (w:World) (R:Nat) (tv:Value) (us:List U) (hrd:Rd w R tv us) :
 Calls Tryz.prog 35 #[.pointer (some ⟨R,0,none⟩)] w λe w'=>e = .returned (.tuple #[])/\Rd w' R tv (blankL false us)/\w.grownBy w' (some R):=by
 go_enter Tryz.func35,Tryz.ntmps35;go_wp2
 go_loopw [] (λwr=>∃vs:List U,blankL false vs=blankL false us/\Rd wr R tv vs/\w.grownBy wr (some R)) (λwr=>leftN wr R)
 case atStart=>exact ⟨us,rfl,hrd,World.grownBy.refl _ _⟩
 case round =>
  obtain ⟨vs,hd,hr,hw⟩:=hrel;have HD:Hid (blankL false vs=blankL false us):=hd;have hl0:=hr.left;have HR:Hid (Rd wr R tv vs):=hr;have hm:=take0_any 71 blankR isBlank_any (enters_of Tryz.func71 (by kernel_rfl) rfl) wr R tv vs hr;cases h1:sgn blankR vs with
  | mk o1 r1=>cases o1 with
   | some x =>
    have HS:=blank_step h1;have HL:=sgn_len h1;rw [h1] at hm;have HS':Hid (blankL false vs=blankL false r1):=HS;clear HS h1 hd hr
    go_wp2_with fail
    refine hm.mono ?_;rintro e w' ⟨rfl,hr2,hw2⟩;go_wp2
    go_roundw
    case rel=>exact ⟨r1,HS'.out.symm.trans HD.out,hr2,hw.trans hw2⟩
    case measure=>rw [hr2.left,hl0];show r1.length<_;omega
   | none =>
    rw [h1] at hm;have e1:=(sgn_none h1).1;subst e1
    go_wp2_with fail
    refine hm.mono ?_;rintro e w2 ⟨rfl,hr2,hw2⟩;have hw02:w.grownBy w2 (some R):=hw.trans hw2;have hr3:Rd (w2.alloc (.cells #[.int .i64 35] 3)) R tv r1:=hr2.alloc _;have hm2:=take1_any w2.heap.size 35 (w2.alloc (.cells #[.int .i64 35] 3)) R tv r1 hr3 (World.cell?_alloc_new _ _ _ _);have hw03:w.grownBy (w2.alloc (.cells #[.int .i64 35] 3)) (some R):=hw02.trans (World.grownBy_alloc _ _ _);cases h2:sgn (isC 35) r1 with
    | mk o2 r2=>cases o2 with
     | some x =>
      have HS:=blank_hash h2;have HL:=sgn_len h2;have HLD:=dropWhile_le (fitU noteR) r2;rw [h2] at hm2;have HS':Hid (blankL false r1=blankL false (r2.dropWhile (fitU noteR))):=HS;clear HS h2 h1 hd hr hm HR hw2 hr2 hr3 hw hw02
      go_wp2_with (first | (go_at_call 72;refine (is_any _ _).mono ?_;rintro e w' ⟨rfl,rfl⟩) | (go_at_call 70;refine hm2.mono ?_;rintro e w4 ⟨rfl,hr4,hw4⟩) | (go_at_call 73;refine (takeAll_any 74 noteR isInNote_any (enters_of Tryz.func74 (by kernel_rfl) rfl) w4 R tv r2 hr4).mono ?_;rintro e w5 ⟨rfl,hr5,hw5⟩))
      go_roundw
      case rel=>exact ⟨_,HS'.out.symm.trans HD.out,hr5,(hw03.trans hw4).trans hw5⟩
      case measure=>rw [hr5.left,hl0];omega
     | none =>
      have HS:=blank_none h1 h2;rw [h2] at hm2;have e2:=(sgn_none h2).1;subst e2;have HS':Hid (r2=blankL false us):=HS.symm.trans hd;clear HS h2 h1 hd hr hm HR hw2 hr2 hr3 hw hw02
      go_wp2_with (first | (go_at_call 72;refine (is_any _ _).mono ?_;rintro e w' ⟨rfl,rfl⟩) | (go_at_call 70;refine hm2.mono ?_;rintro e w4 ⟨rfl,hr4,hw4⟩))
      refine bodyPost_ret (results_none rfl _ _ _) rfl ?_;exact ⟨rfl,by rw [<- HS'.out];exact hr4,hw03.trans hw4⟩
theorem stuck_any (us:List U) (R:Nat) (a:Option Addr) (n cap:Nat) (w:World) (hrd:Rd w R (.slice a n cap) us) :
 Calls Tryz.prog 81 #[.pointer (some ⟨R,0,none⟩)] w λe w'=>e = .returned (.tuple #[.int .i64 (atL n us:Int),.int .i64 (stuckE us)])/\w=w':=by
 have ha:=at_any us R a n cap w hrd
 match us,hrd,ha with
 | [],hrd,ha =>
  obtain ⟨ua,uc,h1,h0,hl⟩:=hrd.nil;go_enter Tryz.func81,Tryz.ntmps81
  go_wp2_with (go_at_call 75;refine ha.mono ?_;rintro e w' ⟨rfl,rfl⟩)
  go_ret2
  exact ⟨rfl,rfl⟩
 | u::t,hrd,ha =>
  obtain ⟨g,off,uc,h1,hc,hf,hl,hne,hgl,c0,c1,c3,hu⟩:=hrd.cons;have hz:((t.length:Int)+1==0)=false:=by simp;omega
  go_enter Tryz.func81,Tryz.ntmps81
  go_wp2_with (go_at_call 75;refine ha.mono ?_;rintro e w' ⟨rfl,rfl⟩)
  go_ret2
  exact ⟨rfl,rfl⟩
set_option maxHeartbeats 8000000
set_option maxRecDepth 100000
theorem figR_cases {c:Int} (h:figR c=true):(48<=c/\c<=57)\/(65<=c/\c<=70):=by
 simp [figR,decB] at h;omega
theorem figV_dec {c:Int} (h:48<=c/\c<=57):figV c=c-48:=by unfold figV;rw [if_pos h.2]
theorem figV_let {c:Int} (h:65<=c/\c<=70):figV c=c-55:=by unfold figV;rw [if_neg (by omega)]
theorem figV_range {c:Int} (h:figR c=true):0<=figV c/\figV c<=15:=by
 rcases figR_cases h with q | q
 · rw [figV_dec q];omega
 · rw [figV_let q];omega
theorem hexV_snoc (l:List Int) (c:Int):hexV (l++[c])=hexV l*16+figV c:=by simp [hexV]
theorem hexV_range:∀(n:Nat) (l:List Int),l.length<=n->(∀c∈l,figR c=true)->0<=hexV l/\hexV l<16 ^ n
 | n,l,hl,h=>by
  rcases list_last l with rfl | ⟨a,c,rfl⟩
  · simp [hexV];exact_mod_cast Nat.pos_of_ne_zero (by simp)
  · match n,hl with
    | 0,hl=>simp at hl
    | n+1,hl =>
     have ih:=hexV_range n a (by simp at hl;omega) (λd hd=>h d (by simp [hd]));have hc:=figV_range (h c (by simp));rw [hexV_snoc,Int.pow_succ];omega
theorem below_bytes (w:World) (e:TypeId) (s:ByteArray):Below w.heap.size w (Lib.bytesWorld w e s) :=
 ⟨rfl,rfl,rfl,by rw [Lib.bytesWorld_size];omega,λk hk=>Lib.bytesWorld_at_old w e s k hk⟩
theorem lower_any (c:Int) (h:65<=c/\c<=70) (w:World):Calls Tryz.prog 234 #[.int .u8 c] w λe w'=>e = .returned (.int .u8 (c+32))/\w=w':=by
 have:c=65\/c=66\/c=67\/c=68\/c=69\/c=70:=by omega
 rcases this with rfl | rfl | rfl | rfl | rfl | rfl
 all_goals
  go_enter Tryz.func234,Tryz.ntmps234;go_wp2;go_ret;exact ⟨rfl,rfl⟩
theorem str_getD (l:List Int) (hb:∀c∈l,0<=c/\c<=255) (k:Nat) (h:k<l.length):(((strOfNums l).data.toList.getD k 0).toNat:Int)=l[k]:=by
 have hk:=hb l[k] (List.getElem_mem h);rw [strOfNums_data];simp only [List.getD,List.getElem?_map,List.getElem?_eq_getElem h,Option.map_some,Option.getD_some];rw [UInt8.toNat_ofNat'];omega
theorem puint_any (l:List Int) (hf:∀c∈l,figR c=true) (h1:1<=l.length) (h6:l.length<=6) (w:World) :
 Calls Tryz.prog 226 #[.string (strOfNums l),.int .i64 16,.int .i64 0] w λe w'=>e = .returned (.tuple #[.int .u64 (hexV l),.nilIface])/\Below w.heap.size w w':=by
 obtain ⟨t,ht⟩ :∃t,t=strOfNums l:=⟨_,rfl⟩;have hsz:t.size=l.length:=by rw [ht,strOfNums_size]
 have hB:∀j,(h:j<l.length)->(Lib.bytesWorld w 5 t).cell? ⟨w.heap.size,j,none⟩=some (.int .u8 l[j]):=λj hj=>by
  rw [Lib.bytesWorld_cell w 5 t j (by omega),ht,str_getD l (λc hc=>by rcases figR_cases (hf c hc) with q | q<;>omega) j hj]
 rw [<- ht];have hemp:t.toList.isEmpty=false:=by
  rw [<- decide_eq_emptyBytes];exact decide_eq_false (λh=>by rw [h] at hsz;have:(ByteArray.empty).size=0:=rfl;simp at hsz;omega)
 have hcv:=Lib.run_convert_string_bytes (P:=Tryz.prog) w 9 22 5 t (u := .string) Tryz.underlying9 Tryz.underlying22 Tryz.underlying5;have hbel:=below_bytes w 5 t;obtain ⟨W1,hW1⟩ :∃W1,W1=Lib.bytesWorld w 5 t:=⟨_,rfl⟩;rw [<- hW1] at hcv hB hbel;clear hW1 ht;have hmv:IntKind.u64.wrap (IntKind.u64.wrap 18446744073709551616-1)=18446744073709551615:=by
  rw [IntKind.wrap_u64,IntKind.wrap_u64]
  decide
 have HB:Hid (∀j,(h:j<l.length)->W1.cell? ⟨w.heap.size,j,none⟩=some (.int .u8 l[j])):=hB;have HF:Hid (∀c∈l,figR c=true):=hf;have HBL:Hid (Below w.heap.size w W1):=hbel;clear hB hf hbel;go_enter Tryz.func226,Tryz.ntmps226;go_wp2
 go_loop [12,13,101] (λvu vn vi=>∃(k:Nat) (a:Int),vu = .bool false/\vn = .int .u64 a/\vi = .int .i64 k/\k<=l.length/\Hid (a=hexV (l.take k))) (λ_ _ vi=>l.length-(intOf vi).toNat)
 case atStart=>exact ⟨0,0,rfl,rfl,rfl,by omega,rfl⟩
 case round =>
  obtain ⟨k,a,rfl,rfl,rfl,hk,hh⟩:=hrel;have ha:=hexV_range 6 (l.take k) (by rw [List.length_take];omega) (λc hc=>HF.out c (List.mem_of_mem_take hc));rw [<- hh.out] at ha;have a0:0<=a:=ha.1;have a1:a<16777216:=ha.2;clear ha;by_cases hkn:k<l.length
  · have hc:=HB.out k hkn;obtain ⟨c,hcd⟩ :∃c,c=l[k]:=⟨_,rfl⟩;rw [<- hcd] at hc;have hfc:figR c=true:=by rw [hcd];exact HF.out _ (List.getElem_mem hkn)
    have HN:Hid (a*16+figV c=hexV (l.take (k+1))):=by
     show _=_;rw [List.take_succ_eq_append_getElem hkn,hexV_snoc,hh.out,hcd]
    clear hcd;rcases figR_cases hfc with q | q
    · have ev:=figV_dec q;obtain ⟨q0,q1⟩:=q;rw [ev] at HN;clear ev hfc hh;have hkt:k<t.size:=by omega
      go_wp2;refine ⟨⟨k+1,a*16+(c-48),rfl,(by first | rfl | (congr 1;omega)),(by first | rfl | (congr 1;omega)),by omega,HN⟩,by simp [intOf];omega⟩
    · have ev:=figV_let q;have hlow:=lower_any c q;obtain ⟨q0,q1⟩:=q;have EN:Hid (a*16+(c-55)=hexV (l.take (k+1))):=by show _=_;rw [<- HN.out,ev]
      clear ev hfc hh HN;have hkt:k<t.size:=by omega
      have hn57:decide (c<=57)=false:=by simp;omega
      go_wp2_with (go_at_call 234;refine (hlow _).mono ?_;rintro e w' ⟨rfl,rfl⟩)
      refine ⟨⟨k+1,a*16+(c-55),rfl,(by first | rfl | (congr 1;omega)),(by first | rfl | (congr 1;omega)),by omega,EN⟩,by simp [intOf];omega⟩
  · obtain rfl:k=l.length:=by omega
    have HE:Hid (a=hexV l):=by show _=_;rw [hh.out,List.take_length]
    clear hh;go_wp2
    go_ret2
    have e:=HE.out;subst e;exact ⟨rfl,HBL.out⟩
theorem pint_any (l:List Int) (hf:∀c∈l,figR c=true) (h1:1<=l.length) (h6:l.length<=6) (w:World) :
 Calls Tryz.prog 221 #[.string (strOfNums l),.int .i64 16,.int .i64 0] w λe w'=>e = .returned (.tuple #[.int .i64 (hexV l),.nilIface])/\Below w.heap.size w w':=by
 have HP:=puint_any l hf h1 h6 w;have ha:=hexV_range 6 l h6 hf;obtain ⟨t,ht⟩ :∃t,t=strOfNums l:=⟨_,rfl⟩;have hsz:t.size=l.length:=by rw [ht,strOfNums_size]
 obtain ⟨c,hc⟩ :∃c,c=l[0]:=⟨_,rfl⟩;have hf0:figR c=true:=by rw [hc];exact hf _ (List.getElem_mem (by omega))
 have hx:((t.data.toList.getD 0 0).toNat:Int)=c:=by
  rw [ht,str_getD l (λc hc=>by rcases figR_cases (hf c hc) with q | q<;>omega) 0 (by omega),hc]
 rw [<- ht] at HP;rw [<- ht];have hemp:t.toList.isEmpty=false:=by
  rw [<- decide_eq_emptyBytes];exact decide_eq_false (λh=>by rw [h] at hsz;simp at hsz;omega)
 have hpos:0<t.size:=by omega
 have hy:((t[0]'hpos).toNat:Int)=c:=by
  rw [<- hx];have e:t[0]'hpos=t.data[0]'hpos:=rfl;rw [e];simp only [List.getD,Array.getElem?_toList];rw [Array.getElem?_eq_getElem hpos];rfl
 have k43:(((t[0]'hpos).toNat:Int)==43)=false:=by rw [hy];rcases figR_cases hf0 with q | q<;>(simp;omega)
 have k45:(((t[0]'hpos).toNat:Int)==45)=false:=by rw [hy];rcases figR_cases hf0 with q | q<;>(simp;omega)
 obtain ⟨v,hv⟩ :∃v,v=hexV l:=⟨_,rfl⟩;rw [<- hv] at HP ha;rw [<- hv];have a0:0<=v:=ha.1;have a1:v<16777216:=ha.2;clear ha hv hf hc hf0 ht hx hy;go_enter Tryz.func221,Tryz.ntmps221
 go_wp2_with fail
 refine HP.mono ?_;rintro e w' ⟨rfl,hB⟩;go_wp2
 go_ret2
 exact ⟨rfl,hB⟩
theorem parse_any (l:List Int) (hf:∀c∈l,figR c=true) (h1:1<=l.length) (h6:l.length<=6) (w:World) :
 Calls Tryz.prog 203 #[.string (strOfNums l),.int .i64 16,.int .i64 0] w λe w'=>e = .returned (.tuple #[.int .i64 (hexV l),.nilIface])/\Below w.heap.size w w':=by
 have HP:=pint_any l hf h1 h6 w;obtain ⟨v,hv⟩ :∃v,v=hexV l:=⟨_,rfl⟩;obtain ⟨t,ht⟩ :∃t,t=strOfNums l:=⟨_,rfl⟩;rw [<- hv,<- ht] at HP;rw [<- hv,<- ht];clear hv ht;go_enter Tryz.func203,Tryz.ntmps203
 go_wp2_with fail
 refine HP.mono ?_;rintro e w' ⟨rfl,hB⟩;go_wp2
 go_ret2
 exact ⟨rfl,hB⟩
theorem clone_none (w:World):Calls Tryz.prog 236 #[.string ⟨#[]⟩] w λe w'=>e = .returned (.string ⟨#[]⟩)/\w=w':=by
 go_enter Tryz.func236,Tryz.ntmps236;go_wp2;go_ret;exact ⟨rfl,rfl⟩
theorem syntaxError_any (s:ByteArray) (w:World) (hv:SynV w):Calls Tryz.prog 227 #[.string s,.string ⟨#[]⟩] w λe w'=>(∃a,e = .returned (.pointer (some a)))/\Below w.heap.size w w':=by
 obtain ⟨te,pe,hv⟩:=hv;go_enter Tryz.func227,Tryz.ntmps227;go_wp2
 go_region_held3 (λw'=>w'.cell? ⟨7,0,none⟩=some (.iface te pe)) (go_keep) ((go_at_call 236;refine (clone_none _).mono ?_;rintro e w' ⟨rfl,rfl⟩))
 all_goals go_wp2
 all_goals
  go_ret;exact ⟨⟨_,rfl⟩,((Below.refl _ w).alloc (Nat.le_refl _) _).drew⟩
theorem toError_any (s:ByteArray) (w:World) (hv:SynV w):Calls Tryz.prog 222 #[.string s,.string ⟨#[]⟩,.int .i64 16,.int .i64 0,.iface 245 (.int .i64 2)] w λe w'=>(∃a,e = .returned (.iface 248 (.pointer (some a))))/\Below w.heap.size w w':=by
 have HS:=syntaxError_any s w hv;have heq:∀W,(binOp .eql 99 (.iface 245 (.int .i64 2)) (.iface 245 (.int .i64 2))).run Tryz.prog W = .ok (.bool true) W:=λW=>Lib.run_eql_iface_int W 2 2 Tryz.underlying99 (by kernel_rfl) Tryz.underlying245;go_enter Tryz.func222,Tryz.ntmps222
 go_wp2_with fail
 refine HS.mono ?_;rintro e w' ⟨⟨a,rfl⟩,hB⟩;go_wp2;go_ret;exact ⟨⟨_,rfl⟩,hB⟩
theorem parse_none (w:World) (hv:SynV w) :
 Calls Tryz.prog 203 #[.string ⟨#[]⟩,.int .i64 16,.int .i64 0] w λe w'=>(∃a,e = .returned (.tuple #[.int .i64 0,.iface 248 (.pointer (some a))]))/\Below w.heap.size w w':=by
 have HP:Calls Tryz.prog 221 #[.string ⟨#[]⟩,.int .i64 16,.int .i64 0] w λe w'=>e = .returned (.tuple #[.int .i64 0,.iface 245 (.int .i64 2)])/\w=w':=by
  go_enter Tryz.func221,Tryz.ntmps221;go_wp2
  go_ret2
  exact ⟨rfl,rfl⟩
 have HT:=toError_any ⟨#[80,97,114,115,101,73,110,116]⟩ w hv;go_enter Tryz.func203,Tryz.ntmps203
 go_wp2_with fail
 refine HP.mono ?_;rintro e w' ⟨rfl,rfl⟩
 go_wp2_with fail
 refine HT.mono ?_;rintro e w' ⟨⟨a,rfl⟩,hB⟩;go_wp2
 go_ret2
 exact ⟨⟨_,rfl⟩,hB⟩
set_option maxHeartbeats 2000000
set_option maxRecDepth 100000
def cutZ (zs:List Int) (p q:Nat):List Int:=(zs.drop p).take (q-p)
theorem cutZ_length {zs:List Int} {p q:Nat} (h:q<=zs.length):(cutZ zs p q).length=q-p:=by
 unfold cutZ;rw [List.length_take,List.length_drop];omega
theorem TxtAt.conv {R:Nat} {w:World} {v:Value} {l:List Int} (h:TxtAt R w v l):(convert 22 9 v).run Tryz.prog w = .ok (.string (strOfNums l)) w:=by
 obtain ⟨a,cap,rfl,hc,hi⟩:=h;by_cases h0:l.length=0
 · obtain rfl:l=[]:=List.length_eq_zero_iff.1 h0;cases a with
   | none =>
    rw [run_convert_bytes_nil w 22 5 Tryz.underlying22 Tryz.underlying5 _ _ 9 Tryz.underlying9];rfl
   | some ad =>
    have hl:(loadCells ad 0).run Tryz.prog w = .ok (([]:List Int).map (Value.int .u8)).toArray w:=by
     simpa using run_loadCells_list (P:=Tryz.prog) w ad [] (λj v hj=>by simp at hj)
    show (convert 22 9 (.slice (some ad) 0 cap)).run Tryz.prog w=_;rw [run_convert_bytes_string w 22 9 5 _ 0 cap Tryz.underlying22 Tryz.underlying5 Tryz.underlying9,run_bytesToString w _ 0 cap [] hl,foldl_push_bytes];simp [strOfNums,ByteArray.empty,ByteArray.emptyWithCapacity];rfl
 · obtain ⟨g,off,rfl,_,_⟩:=hi 0 (by omega);refine run_convert_bytes_arg w 22 5 Tryz.underlying22 Tryz.underlying5 g off l.length cap l rfl (λi hlt => ?_) 9 Tryz.underlying9;obtain ⟨g',off',e,_,hcc⟩:=hi i hlt;obtain ⟨rfl,rfl⟩:g=g'/\off=off':=by simpa using e
   rw [hcc];simp [hlt]
theorem TxtAt.cut {R:Nat} {w:World} {g off cap n:Nat} {zs:List Int} (h:TxtAt R w (.slice (some ⟨g,off,none⟩) n cap) zs) {p q:Nat} (hq:q<=zs.length) (a':Option Addr) (c':Nat) (hc:q-p<=c') (ha:p<q->a'=some ⟨g,off+p,none⟩):TxtAt R w (.slice a' (q-p) c') (cutZ zs p q):=by
 obtain ⟨a,c,e,hcap,hi⟩:=h;obtain ⟨rfl,rfl,rfl⟩:some ⟨g,off,none⟩=a/\n=zs.length/\cap=c:=by simpa using e
 refine ⟨a',c',by rw [cutZ_length hq],by rw [cutZ_length hq];exact hc,λi hlt => ?_⟩;rw [cutZ_length hq] at hlt;obtain ⟨g',off',e2,hg,h0⟩:=hi (p+i) (by omega);obtain ⟨rfl,rfl⟩:g=g'/\off=off':=by simpa using e2
 refine ⟨g,off+p,ha (by omega),hg,?_⟩;rw [Nat.add_assoc,h0];simp [cutZ]
theorem since_any (zs:List Int) (us:List U) (R from_:Nat) (g off cap:Nat) (w:World) (hrd:Rd w R (.slice (some ⟨g,off,none⟩) zs.length cap) us) (htx:TxtAt R w (.slice (some ⟨g,off,none⟩) zs.length cap) zs) (hz:zs.length<=65536)
 (h1:from_<=atL zs.length us) (h2:atL zs.length us<=zs.length) :
 Calls Tryz.prog 78 #[.pointer (some ⟨R,0,none⟩),.int .i64 (from_:Int)] w λe w'=>e = .returned (.string (strOfNums (cutZ zs from_ (atL zs.length us))))/\w.grownBy w' none:=by
 have ha:∀n,Calls Tryz.prog 75 #[.pointer (some ⟨R,0,none⟩)] (w.drewN n) λe w'=>e = .returned (.int .i64 (atL zs.length us:Int))/\w'=w.drewN n:=λn =>
  (at_any us R _ zs.length cap (w.drewN n) (hrd.kept (grownR_drewN (World.grownBy.refl _ _) n))).mono λe w' h=>⟨h.1,h.2.symm⟩
 obtain ⟨h0,hl⟩:=hrd.text;obtain ⟨q,hq⟩ :∃q,q=atL zs.length us:=⟨_,rfl⟩;rw [<- hq] at h1 h2 ha;rw [<- hq];have hcap:zs.length<=cap:=by obtain ⟨_,_,e,hc,_⟩:=htx;simp at e;omega
 have HG:Hid (∀n,w.grownBy (w.drewN n) none):=λn=>grownR_drewN (World.grownBy.refl _ _) n;have HT:Hid (∀n,TxtAt R (w.drewN n) (.slice (some ⟨g,off,none⟩) zs.length cap) zs):=λn=>htx.grown ((HG.out n).but _);clear hq htx hrd;have hh1:(from_:Int)<=(q:Int):=by omega
 have hh2:(q:Int)<=(zs.length:Int):=by omega
 have hh3:(q:Int)<=(cap:Int):=by omega
 have hh0:(0:Int)<=(from_:Int):=by omega
 by_cases hfq:from_<q
 · have hcv:∀n,(convert 22 9 (.slice (some ⟨g,off+from_,none⟩) (q-from_) (cap-from_))).run Tryz.prog (w.drewN n) = .ok (.string (strOfNums (cutZ zs from_ q))) (w.drewN n):=λn =>
    ((HT.out n).cut h2 _ _ (by omega) (λ_=>rfl)).conv
   have hne:¬(cap=from_):=by omega
   have hne2:¬(cap-from_=0):=by omega
   obtain ⟨s,hs⟩ :∃s,s=strOfNums (cutZ zs from_ q):=⟨_,rfl⟩;rw [<- hs] at hcv ⊢;clear hs;go_enter Tryz.func78,Tryz.ntmps78;go_wp2
   go_quiet ((go_at_call 75;exact Calls.quiet_of_same (ha _)))
   go_wp2;go_ret;exact ⟨rfl,HG.out _⟩
 · obtain rfl:from_=q:=by omega
   have hcv:∀n a' c',(convert 22 9 (.slice a' 0 c')).run Tryz.prog (w.drewN n) = .ok (.string (strOfNums [])) (w.drewN n):=λn a' c' =>
    TxtAt.conv (R:=R) ⟨a',c',rfl,Nat.zero_le _,λi hi=>by cases hi⟩
   have e0:cutZ zs from_ from_=[]:=by simp [cutZ]
   rw [e0];obtain ⟨s,hs⟩ :∃s,s=strOfNums []:=⟨_,rfl⟩;rw [<- hs] at hcv ⊢;clear hs;go_enter Tryz.func78,Tryz.ntmps78;go_wp2
   go_quiet ((go_at_call 75;exact Calls.quiet_of_same (ha _)))
   all_goals go_wp2
   all_goals
    go_ret;exact ⟨rfl,HG.out _⟩
theorem atMost_any (c:Int) (w:World):Calls Tryz.prog 201 #[.int .i64 c,.func (.func 202) #[] #[]] w λe w'=>e = .returned (.func (.func 220) #[] #[.pointer (some ⟨w.heap.size,0,none⟩),.pointer (some ⟨w.heap.size+1,0,none⟩)])/\(w.alloc (.cells #[.int .i64 c] 3)).alloc (.cells #[.func (.func 202) #[] #[]] 119)=w':=by
 go_enter Tryz.func201,Tryz.ntmps201;go_wp2;go_ret;exact ⟨rfl,rfl⟩
def AM (w:World) (B C R:Nat) (n:Int):Prop :=
 w.cell? ⟨B,0,none⟩=some (.int .i64 n)/\w.frozen? ⟨B,0,none⟩=false/\w.cell? ⟨C,0,none⟩=some (.func (.func 202) #[] #[])/\R<B/\R<C/\B≠C/\B<w.heap.size/\C<w.heap.size
theorem AM.grown {w w':World} {B C R:Nat} {n:Int} (h:AM w B C R n) (hg:w.grownBy w' (some R)):AM w' B C R n:=by
 obtain ⟨h0,h1,h2,h3,h4,h5,h6,h7⟩:=h;refine ⟨hg.cell h0 (by simp;omega),?_,hg.cell h2 (by simp;omega),h3,h4,h5,Nat.lt_of_lt_of_le h6 hg.size,Nat.lt_of_lt_of_le h7 hg.size⟩;rw [<- h1];exact World.frozen?_of_block (a:=⟨B,0,none⟩) (hg.block B h6 (by simp;omega))
theorem AM.set {w:World} {B C R:Nat} {n:Int} (h:AM w B C R n) (m:Int):AM (w.setCell ⟨B,0,none⟩ (.int .i64 m)) B C R m:=by
 obtain ⟨h0,h1,h2,h3,h4,h5,h6,h7⟩:=h;refine ⟨World.cell?_setCell_same' w ⟨B,0,none⟩ _ (by rw [h0];rfl),by rw [World.frozen?_setCell];exact h1,?_,h3,h4,h5,by simpa [World.setCell] using h6,by simpa [World.setCell] using h7⟩;exact (World.cell?_setCell_other w ⟨B,0,none⟩ ⟨C,0,none⟩ _ (by simp)).trans h2
theorem atMost1_any (n:Nat) (r:Int) (B C R:Nat) (w:World) (h:AM w B C R n) (hn:n<=6) :
 Calls Tryz.prog 220 #[.int .i64 r,.pointer (some ⟨B,0,none⟩),.pointer (some ⟨C,0,none⟩)] w λe w'=>e = .returned (.bool (decide (1<=n)&&figR r))/\w.setCell ⟨B,0,none⟩ (.int .i64 ((n:Int)-1))=w':=by
 have h':=h.set ((n:Int)-1);obtain ⟨h0,h1,h2,h3,h4,h5,h6,h7⟩:=h;obtain ⟨k0,k1,k2,_⟩:=h';have c1:=isFigure_any r (w.setCell ⟨B,0,none⟩ (.int .i64 ((n:Int)-1)));by_cases q:1<=n
 · have e:(decide (1<=n)&&figR r)=figR r:=by simp [q]
   rw [e];have q1:(0:Int)<=(n:Int)-1:=by omega
   go_enter Tryz.func220,Tryz.ntmps220
   go_wp2_with (go_at_call 202;refine c1.mono ?_;rintro e w' ⟨rfl,rfl⟩)
   go_ret;exact ⟨rfl,rfl⟩
 · have e:(decide (1<=n)&&figR r)=false:=by simp [q]
   rw [e];obtain rfl:n=0:=by omega
   go_enter Tryz.func220,Tryz.ntmps220;go_wp2;go_ret;exact ⟨rfl,rfl⟩
end Go.Proofs.YtfdjchnckjgapaaGreatDoor
