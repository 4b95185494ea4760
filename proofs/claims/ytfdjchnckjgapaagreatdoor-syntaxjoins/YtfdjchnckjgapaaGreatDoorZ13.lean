/-
  Tkn SetP SumP
-/
import Derived.Test.YtfdjchnckjgapaaGreatDoorZ12
import Derived.Deep.WholeRow
namespace Go.Proofs.YtfdjchnckjgapaaGreatDoor
set_option maxHeartbeats 4000000
set_option maxRecDepth 100000
open Go.RowKit Go.Shelf S1
set_option linter.unusedVariables false
theorem results_row_one {P:Program} {fn:Func} {p:Tmp} {ty:TypeId} (h:fn.results=#[.cell p ty]) (tmps:Array Value) (w:World) (g:Nat) (t:TypeId) (cs:Array Value) (fr:Nat×Nat) (d:TypeDesc)
 (hp:tmps.getD p undef = .pointer (some ⟨g,0,none⟩)) (hg:w.heap[g]? = some (.cells cs t fr))
 (hu:P.underlying ty=some d) (hd:(match d with | .struct _ | .array _ _=>true | _=>false)=true) (hi:(P.info? ty).map (·.size)=some cs.size) :
 (results fn tmps).run P w = .ok (.agg cs) w:=by
 have hp':tmps[p]?.getD undef = .pointer (some ⟨g,0,none⟩):=by simpa using hp
 simp [results,h,hp',asAddr,run_loadVar_row w g t ty cs fr d hg hu hd hi]
theorem field_tok0 (a b c d:Value) (w:World):(Instr.field 54 (.agg #[a,b,c,d]) 0).run Tryz.prog w = .ok a w:=by
 simp [Instr.field,run_underlying Tryz.underlying54,part,isAgg,run_underlying Tryz.underlying3,Result.andThen,asAgg]
theorem field_tok1 (a b c d:Value) (w:World):(Instr.field 54 (.agg #[a,b,c,d]) 1).run Tryz.prog w = .ok b w:=by
 simp [Instr.field,run_underlying Tryz.underlying54,part,isAgg,run_underlying Tryz.underlying3,Result.andThen,asAgg]
theorem field_tok2 (a b c d:Value) (w:World):(Instr.field 54 (.agg #[a,b,c,d]) 2).run Tryz.prog w = .ok c w:=by
 simp [Instr.field,run_underlying Tryz.underlying54,part,isAgg,run_underlying Tryz.underlying9,Result.andThen,asAgg]
def tokV (t:Tok) (v:Value):Value := .agg #[.int .i64 t.k,.int .i64 (t.p:Int),.string (strOfNums t.t),v]
theorem next_any (c:Pc) (X:Nat->Prop) (P:Nat) (w:World) (t:Tok) (r:List Tok) (st:Sts) (d:Nat) (hpa:Pa c X P w (t::r) st d) :
 Calls Tryz.prog 20 #[.pointer (some ⟨P,0,none⟩)] w λe w'=>∃v,e = .returned (tokV t v)/\RngS (Im X w P) w v t.s/\Below w.heap.size w w':=by
 have hPl:=hpa.lt;obtain ⟨k,v,hk,hn,hc,c0,c1,f1,hg,t0,t1,t2,t3,hr,_⟩:=hpa.next;obtain ⟨va,vc,rfl⟩:=hr.slice;have HR:Hid (RngS (Im X w P) w (.slice va t.s.length vc) t.s):=hr;have hE:=heap_new' w (.cells #[.int .i64 0,.int .i64 0,.string ⟨#[]⟩,.slice none 0 0] 54);have HE:Hid _:=hE;have d0:=cell_of_row _ _ 0 _ _ _ hE;have g0:=frozen_of_row _ _ 0 _ _ hE;have d1:=cell_of_row _ _ 1 _ _ _ hE;have g1:=frozen_of_row _ _ 1 _ _ hE;have d2:=cell_of_row _ _ 2 _ _ _ hE;have g2:=frozen_of_row _ _ 2 _ _ hE;have d3:=cell_of_row _ _ 3 _ _ _ hE;have g3:=frozen_of_row _ _ 3 _ _ hE;clear hr hE hpa;go_enter Tryz.func20,Tryz.ntmps20;go_wp2
 go_region
 go_wp2;refine bodyPost_ret (results_row_one rfl _ _ w.heap.size 54 #[.int .i64 t.k,.int .i64 (t.p:Int),.string (strOfNums t.t),.slice va t.s.length vc] (0,0) _ rfl ?_ Tryz.underlying54 rfl (by kernel_rfl)) rfl ?_
 · exact heap_new' w _
 exact ⟨_,rfl,HR.out,below_drewN' (below_alloc w _) 1⟩
def AnsB (w:World) (b:Bool) (e:Ending) (w':World):Prop:=e = .returned (.bool b)/\Below w.heap.size w w'
theorem below_after {a b c:World} (h:Below a.heap.size a b) (k:Below b.heap.size b c):Below a.heap.size a c:=h.trans (k.mono h.size)
section
variable (c : Pc) (X : Nat → Prop) (P : Nat) (w : World) (t : Tok) (r : List Tok) (st : Sts) (d : Nat) (hpa : Pa c X P w (t :: r) st d)
theorem take_any (hpa:Pa c X P w (t::r) st d) (hk4:t.k≠4):Calls Tryz.prog 113 #[.pointer (some ⟨P,0,none⟩)] w λe w'=>e = .returned (.tuple #[])/\Pa c X P w' r st d/\Fr w.heap.size P w w'/\w'.heap.size=w.heap.size:=by
 have hPl:=hpa.lt;obtain ⟨k,v,hk,hn,hc,c0,c1,f1,hg,t0,t1,t2,t3,hr,_,_,_,hnx⟩:=hpa.next;have HN:Hid (Pa c X P (w.setCell ⟨P,1,none⟩ (.int .i64 ((k:Int)+1))) r st d):=hnx hk4;clear hpa hnx hr t0 t1 t2 t3 c0;go_enter Tryz.func113,Tryz.ntmps113;go_wp2
 go_end0
 exact ⟨rfl,HN.out,fr_own w 1 (by decide) _,by simp [World.setCell]⟩
theorem more_any (hpa:Pa c X P w (t::r) st d):Calls Tryz.prog 37 #[.pointer (some ⟨P,0,none⟩)] w λe w'=>AnsB w (t.k != 4) e w':=by
 have h1:=next_any c X P w t r st d hpa;go_enter Tryz.func37,Tryz.ntmps37
 go_wp2_with fail
 refine h1.mono ?_;rintro e w1 ⟨v,rfl,hr,hB⟩;obtain ⟨va,vc,rfl⟩:=hr.slice;clear h1 hr;unfold tokV;have hf:=field_tok0 (.int .i64 t.k) (.int .i64 (t.p:Int)) (.string (strOfNums t.t)) (.slice va t.s.length vc) w1;go_wp2;go_ret;exact ⟨rfl,hB⟩
theorem is_ans (hpa:Pa c X P w (t::r) st d) (kind:Int) (s:List Int) (hs:Byt s):Calls Tryz.prog 112 #[.pointer (some ⟨P,0,none⟩),.int .i64 kind,.string (strOfNums s)] w λe w'=>AnsB w (t.k==kind&&t.t==s) e w':=by
 have h1:=next_any c X P w t r st d hpa;obtain ⟨k,v,hk,hn,hc,c0,c1,f1,hg,t0,t1,t2,t3,hr,_,hby,_⟩:=hpa.next;have he:=strNums_eq hby hs;obtain ⟨b,hb⟩ :∃b,b=(t.k==kind&&t.t==s):=⟨_,rfl⟩;rw [<- hb];have HB:Hid (b=(t.k==kind&&t.t==s)):=hb;clear hb hr c0 c1 f1 t0 t1 t2 t3 hpa hby hs hk hn hc hg;cases h2:(t.k==kind) with
 | false =>
  have HB2:Hid (b=false):=by
   show _=_;have:=HB.out;rw [h2] at this;simpa using this
  go_enter Tryz.func112,Tryz.ntmps112
  go_wp2_with fail
  refine h1.mono ?_;rintro e w1 ⟨v,rfl,hr,hB⟩;obtain ⟨va,vc,rfl⟩:=hr.slice;clear h1 hr;unfold tokV;go_wp2;go_ret;rw [HB2.out];exact ⟨rfl,below_after hB (below_alloc _ _)⟩
 | true =>
  by_cases h3:t.t=s
  · have HB2:Hid (b=true):=by
     show _=_;have:=HB.out;rw [h2,h3] at this;simpa using this
    rw [decide_eq_true h3] at he;clear h3;go_enter Tryz.func112,Tryz.ntmps112
    go_wp2_with fail
    refine h1.mono ?_;rintro e w1 ⟨v,rfl,hr,hB⟩;obtain ⟨va,vc,rfl⟩:=hr.slice;clear h1 hr;unfold tokV;go_wp2;go_ret;rw [HB2.out];exact ⟨rfl,below_after hB (below_alloc _ _)⟩
  · have HB2:Hid (b=false):=by
     show _=_;have:=HB.out;rw [h2] at this;rw [this];simp [h3]
    rw [decide_eq_false h3] at he;clear h3;go_enter Tryz.func112,Tryz.ntmps112
    go_wp2_with fail
    refine h1.mono ?_;rintro e w1 ⟨v,rfl,hr,hB⟩;obtain ⟨va,vc,rfl⟩:=hr.slice;clear h1 hr;unfold tokV;go_wp2;go_ret;rw [HB2.out];exact ⟨rfl,below_after hB (below_alloc _ _)⟩
theorem isSign_ans (hpa:Pa c X P w (t::r) st d) (x:Int) (hx:0<=x/\x<=255):Calls Tryz.prog 142 #[.pointer (some ⟨P,0,none⟩),.string (strOfNums [x])] w λe w'=>AnsB w (tkSign x t) e w':=by
 have h1:=is_ans c X P w t r st d hpa 2 [x] (λy hy=>by simp at hy;omega);go_enter Tryz.func142,Tryz.ntmps142
 go_wp2_with fail
 refine h1.mono ?_;rintro e w1 ⟨rfl,hB⟩;clear h1;go_wp2;go_ret;exact ⟨rfl,hB⟩
theorem isWord_ans (hpa:Pa c X P w (t::r) st d) (s:List Int) (hs:Byt s):Calls Tryz.prog 82 #[.pointer (some ⟨P,0,none⟩),.string (strOfNums s)] w λe w'=>AnsB w (tkWord s t) e w':=by
 have h1:=is_ans c X P w t r st d hpa 1 s hs;go_enter Tryz.func82,Tryz.ntmps82
 go_wp2_with fail
 refine h1.mono ?_;rintro e w1 ⟨rfl,hB⟩;clear h1;go_wp2;go_ret;exact ⟨rfl,hB⟩
theorem byt_set:Byt wSet:=λy hy=>by simp [wSet] at hy;omega
theorem byt_break:Byt wBreak:=λy hy=>by simp [wBreak] at hy;omega
theorem byt_keep:Byt wKeep:=λy hy=>by simp [wKeep] at hy;omega
theorem beginsRule_ans (hpa:Pa c X P w (t::r) st d):Calls Tryz.prog 84 #[.pointer (some ⟨P,0,none⟩)] w λe w'=>AnsB w (tkRule t) e w':=by
 have h1:Calls Tryz.prog 82 #[.pointer (some ⟨P,0,none⟩),.string ⟨#[98,114,101,97,107]⟩] w λe w'=>AnsB w (tkWord wBreak t) e w':=isWord_ans c X P w t r st d hpa wBreak byt_break;have HP:Hid (Pa c X P w (t::r) st d):=hpa;clear hpa;unfold tkRule;cases h2:tkWord wBreak t with
 | true =>
  rw [h2] at h1;go_enter Tryz.func84,Tryz.ntmps84
  go_wp2_with fail
  refine h1.mono ?_;rintro e w1 ⟨rfl,hB⟩;clear h1;go_wp2;go_ret;exact ⟨rfl,hB⟩
 | false =>
  rw [h2] at h1;go_enter Tryz.func84,Tryz.ntmps84
  go_wp2_with fail
  refine h1.mono ?_;rintro e w1 ⟨rfl,hB⟩;clear h1;have h3:Calls Tryz.prog 82 #[.pointer (some ⟨P,0,none⟩),.string ⟨#[107,101,101,112]⟩] w1 λe w'=>AnsB w1 (tkWord wKeep t) e w':=isWord_ans c X P w1 t r st d (HP.out.below hB) wKeep byt_keep
  go_wp2_with fail
  refine h3.mono ?_;rintro e w2 ⟨rfl,hB2⟩;clear h3;go_wp2;go_ret;exact ⟨rfl,below_after hB hB2⟩
theorem isName_ans (hpa:Pa c X P w (t::r) st d):Calls Tryz.prog 114 #[.pointer (some ⟨P,0,none⟩)] w λe w'=>AnsB w (tkName t) e w':=by
 have h1:=next_any c X P w t r st d hpa;have HP:Hid (Pa c X P w (t::r) st d):=hpa;clear hpa;obtain ⟨b,hb⟩ :∃b,b=tkName t:=⟨_,rfl⟩;rw [<- hb];have HB:Hid (b=(t.k==1 && !tkWord wSet t && !tkRule t)):=hb;clear hb;go_enter Tryz.func114,Tryz.ntmps114
 go_wp2_with fail
 refine h1.mono ?_;rintro e w1 ⟨v,rfl,hr,hB⟩;obtain ⟨va,vc,rfl⟩:=hr.slice;clear h1 hr;unfold tokV;have hf:=field_tok0 (.int .i64 t.k) (.int .i64 (t.p:Int)) (.string (strOfNums t.t)) (.slice va t.s.length vc) w1;cases h2:(t.k==1) with
 | false =>
  have HB2:Hid (b=false):=by
   show _=_;rw [HB.out,h2];rfl
  go_wp2;go_ret;rw [HB2.out];exact ⟨rfl,hB⟩
 | true =>
  have h3:Calls Tryz.prog 82 #[.pointer (some ⟨P,0,none⟩),.string ⟨#[115,101,116]⟩] w1 λe w'=>AnsB w1 (tkWord wSet t) e w':=isWord_ans c X P w1 t r st d (HP.out.below hB) wSet byt_set;cases h4:tkWord wSet t with
  | true =>
   rw [h4] at h3;have HB2:Hid (b=false):=by
    show _=_;rw [HB.out,h2,h4];rfl
   go_wp2_with fail
   refine h3.mono ?_;rintro e w2 ⟨rfl,hB2⟩;clear h3;go_wp2;go_ret;rw [HB2.out];exact ⟨rfl,below_after hB hB2⟩
  | false =>
   rw [h4] at h3;have HB2:Hid (b = !tkRule t):=by
    show _=_;rw [HB.out,h2,h4];rfl
   go_wp2_with fail
   refine h3.mono ?_;rintro e w2 ⟨rfl,hB2⟩;clear h3;have h5:=beginsRule_ans c X P w2 t r st d ((HP.out.below hB).below hB2)
   go_wp2_with fail
   refine h5.mono ?_;rintro e w3 ⟨rfl,hB3⟩;clear h5;go_wp2;go_ret;rw [HB2.out];exact ⟨rfl,below_after (below_after hB hB2) hB3⟩
theorem tellsSet_ans (hpa:Pa c X P w (t::r) st d):Calls Tryz.prog 213 #[.pointer (some ⟨P,0,none⟩)] w λe w'=>AnsB w (tkTells t) e w':=by
 have h1:=next_any c X P w t r st d hpa;have HP:Hid (Pa c X P w (t::r) st d):=hpa;clear hpa;obtain ⟨b,hb⟩ :∃b,b=tkTells t:=⟨_,rfl⟩;rw [<- hb];have HB:Hid (b=(t.k==3||tkName t||tkSign 46 t)):=hb;clear hb;go_enter Tryz.func213,Tryz.ntmps213
 go_wp2_with fail
 refine h1.mono ?_;rintro e w1 ⟨v,rfl,hr,hB⟩;obtain ⟨va,vc,rfl⟩:=hr.slice;clear h1 hr;unfold tokV;have hf:=field_tok0 (.int .i64 t.k) (.int .i64 (t.p:Int)) (.string (strOfNums t.t)) (.slice va t.s.length vc) w1;cases h2:(t.k==3) with
 | true =>
  have HB2:Hid (b=true):=by
   show _=_;rw [HB.out,h2];rfl
  go_wp2;go_ret;rw [HB2.out];exact ⟨rfl,hB⟩
 | false =>
  have h3:=isName_ans c X P w1 t r st d (HP.out.below hB);cases h4:tkName t with
  | true =>
   rw [h4] at h3;have HB2:Hid (b=true):=by
    show _=_;rw [HB.out,h2,h4];rfl
   go_wp2_with fail
   refine h3.mono ?_;rintro e w2 ⟨rfl,hB2⟩;clear h3;go_wp2;go_ret;rw [HB2.out];exact ⟨rfl,below_after hB hB2⟩
  | false =>
   rw [h4] at h3;have HB2:Hid (b=tkSign 46 t):=by
    show _=_;rw [HB.out,h2,h4];rfl
   go_wp2_with fail
   refine h3.mono ?_;rintro e w2 ⟨rfl,hB2⟩;clear h3;have h5:Calls Tryz.prog 142 #[.pointer (some ⟨P,0,none⟩),.string ⟨#[46]⟩] w2 λe w'=>AnsB w2 (tkSign 46 t) e w':=isSign_ans c X P w2 t r st d ((HP.out.below hB).below hB2) 46 (by decide)
   go_wp2_with fail
   refine h5.mono ?_;rintro e w3 ⟨rfl,hB3⟩;clear h5;go_wp2;go_ret;rw [HB2.out];exact ⟨rfl,below_after (below_after hB hB2) hB3⟩
theorem beginsPart_ans (hpa:Pa c X P w (t::r) st d):Calls Tryz.prog 187 #[.pointer (some ⟨P,0,none⟩)] w λe w'=>AnsB w (tkPart t) e w':=by
 have h1:=tellsSet_ans c X P w t r st d hpa;have HP:Hid (Pa c X P w (t::r) st d):=hpa;clear hpa;obtain ⟨b,hb⟩ :∃b,b=tkPart t:=⟨_,rfl⟩;rw [<- hb];have HB:Hid (b=(tkTells t||tkSign 40 t)):=hb;clear hb;cases h4:tkTells t with
 | true =>
  rw [h4] at h1;have HB2:Hid (b=true):=by
   show _=_;rw [HB.out,h4];rfl
  go_enter Tryz.func187,Tryz.ntmps187
  go_wp2_with fail
  refine h1.mono ?_;rintro e w2 ⟨rfl,hB2⟩;clear h1;go_wp2;go_ret;rw [HB2.out];exact ⟨rfl,hB2⟩
 | false =>
  rw [h4] at h1;have HB2:Hid (b=tkSign 40 t):=by
   show _=_;rw [HB.out,h4];rfl
  go_enter Tryz.func187,Tryz.ntmps187
  go_wp2_with fail
  refine h1.mono ?_;rintro e w2 ⟨rfl,hB2⟩;clear h1;have h5:Calls Tryz.prog 142 #[.pointer (some ⟨P,0,none⟩),.string ⟨#[40]⟩] w2 λe w'=>AnsB w2 (tkSign 40 t) e w':=isSign_ans c X P w2 t r st d (HP.out.below hB2) 40 (by decide)
  go_wp2_with fail
  refine h5.mono ?_;rintro e w3 ⟨rfl,hB3⟩;clear h5;go_wp2;go_ret;rw [HB2.out];exact ⟨rfl,below_after hB2 hB3⟩
theorem takesSign_ans (hpa:Pa c X P w (t::r) st d) (x:Int) (hx:0<=x/\x<=255):Calls Tryz.prog 115 #[.pointer (some ⟨P,0,none⟩),.string (strOfNums [x])] w λe w' =>
 e = .returned (.bool (tkSign x t))/\Pa c X P w' (if tkSign x t=true then r else t::r) st d/\Fr w.heap.size P w w':=by
 have h1:=isSign_ans c X P w t r st d hpa x hx;have HP:Hid (Pa c X P w (t::r) st d):=hpa;clear hpa;cases h4:tkSign x t with
 | false =>
  rw [h4] at h1;go_enter Tryz.func115,Tryz.ntmps115
  go_wp2_with fail
  refine h1.mono ?_;rintro e w2 ⟨rfl,hB2⟩;clear h1;go_wp2;go_ret;exact ⟨rfl,HP.out.below hB2,HP.out.fr hB2⟩
 | true =>
  rw [h4] at h1;have HK:Hid (t.k≠4):=sign_end h4;go_enter Tryz.func115,Tryz.ntmps115
  go_wp2_with fail
  refine h1.mono ?_;rintro e w2 ⟨rfl,hB2⟩;clear h1;have h5:=take_any c X P w2 t r st d (HP.out.below hB2) HK.out
  go_wp2_with fail
  refine h5.mono ?_;rintro e w3 ⟨rfl,hp3,hf3,_⟩;clear h5;go_wp2;go_ret;exact ⟨rfl,hp3,(HP.out.fr hB2).then hf3 hB2.size⟩
end
end Go.Proofs.YtfdjchnckjgapaaGreatDoor
namespace Go.Proofs.YtfdjchnckjgapaaGreatDoor
set_option maxHeartbeats 8000000
set_option maxRecDepth 100000
open Go.RowKit Go.Shelf S1
set_option linter.unusedVariables false
theorem allS_set:IsSet allS:=⟨⟨by decide,by decide,trivial⟩,λr hr=>by simp [allS] at hr;subst hr;decide⟩
theorem all_upto:Upto (λx => !hasR [] x) allS 1114112:=by
 refine ⟨allS_set.1,λx => ?_⟩;simp only [hasR,allS,List.any_cons,List.any_nil,Bool.or_false,Bool.not_false,and_true];exact decide_eq_decide.2 (by omega)
theorem keyOf_name (s:List Int) (h:s.length<=70000):keyOf Tryz.prog 9 (.string (strOfNums s))=some (keyL s):=by
 refine WideMaps.keyOf_string_mk Tryz.underlying9 ?_;have:(strOfNums s).size=s.length:=by simp [strOfNums,ByteArray.size]
 rw [this];unfold maxLen;omega
theorem NmS.look {Q:Nat->Prop} {w:World} {mb m:Nat} {N:Nms} (h:NmS Q w mb m N) (x:List Int) (hb:Byt x) (hl:x.length<=70000) :
 (N x=none/\∃v,(Instr.lookup 49 (.map (some mb)) (.string (strOfNums x)) true).run Tryz.prog w = .ok (.tuple #[v,.bool false]) w) \/
 (∃s v,N x=some s/\IsSet s/\RngS Q w v s/\(Instr.lookup 49 (.map (some mb)) (.string (strOfNums x)) true).run Tryz.prog w = .ok (.tuple #[v,.bool true]) w):=by
 obtain ⟨h0,n,D,hn,ho,hx⟩:=h;have hz:(zeroValue 43).run Tryz.prog w = .ok (.slice none 0 0) w:=(zero_of_info (n:=1) (by kernel_rfl)).1 w;obtain ⟨v,ps,hrun,hv⟩:=ho.look_ok (Maps.string_keyed Tryz.underlying9) Tryz.underlying49 hz (zd := .held (.slice none 0 0)) (zp:=[]) rfl (keyOf_name x hl);obtain ⟨hx1,hx2⟩:=hx x hb hl;cases hN:N x with
 | none =>
  rw [hx1 hN] at hrun;exact .inl ⟨rfl,v,hrun⟩
 | some s =>
  obtain ⟨hh,hs,v',hat,hr⟩:=hx2 s hN;rw [hh] at hrun;have e:v=v':=by
   rw [hat] at hv;have q:v=v'/\ps=[]:=by simpa [heldR] using hv
   exact q.1
  subst e;exact .inr ⟨s,v,rfl,hs,hr,hrun⟩
theorem Pa.names {c:Pc} {X:Nat->Prop} {P:Nat} {w:World} {ts:List Tok} {st:Sts} {d:Nat} (h:Pa c X P w ts st d):w.cell? ⟨P,2,none⟩=some (.map (some c.mb))/\NmS (Im X w P) w c.mb c.n c.N:=by
 obtain ⟨k,sv,h1,h2,h3⟩:=h;obtain ⟨e1,e2,e3,e4,e5,e6,e7,e8,e9,e10⟩:=h2;exact ⟨by rw [row_cell h1];rfl,e9.to (λj hj=>⟨rfl,hj⟩) (by omega)⟩
theorem nms_drew {Q:Nat->Prop} {w:World} {mb m:Nat} {N:Nms} (h:NmS Q w mb m N):NmS Q w.drew mb m N:=h.to (λk hk=>⟨rfl,hk⟩) (Nat.le_refl _)
theorem setM_set {N:Nms} {t:Tok} (h:t.k=3):setM N t = .inr t.s:=by unfold setM;rw [if_pos h]
theorem setM_all {N:Nms} {t:Tok} (h:¬t.k=3) (h2:tkSign 46 t=true):setM N t = .inr allS:=by unfold setM;rw [if_neg h,if_pos h2]
theorem setM_bad {N:Nms} {t:Tok} (h:¬t.k=3) (h2:tkSign 46 t=false) (h3:tkName t=false):setM N t = .inl 6:=by unfold setM;rw [if_neg h,if_neg (by simp [h2]),if_neg (by simp [h3])]
theorem setM_none {N:Nms} {t:Tok} (h:¬t.k=3) (h2:tkSign 46 t=false) (h3:tkName t=true) (h4:N t.t=none):setM N t = .inl 4:=by unfold setM;rw [if_neg h,if_neg (by simp [h2]),if_pos h3,h4]
theorem setM_some {N:Nms} {t:Tok} {s:List Rg} (h:¬t.k=3) (h2:tkSign 46 t=false) (h3:tkName t=true) (h4:N t.t=some s):setM N t = .inr s:=by unfold setM;rw [if_neg h,if_neg (by simp [h2]),if_pos h3,h4]
def SetA (X:Nat->Prop) (P:Nat) (q:Int ⊕ List Rg) (w:World) (e:Ending) (w':World):Prop :=
 ((∃x,q = .inl x/\x≠0/\e = .returned (.tuple #[.slice none 0 0,.int .i64 x])) \/
  (∃s v,q = .inr s/\IsSet s/\RngS (Im X w' P) w' v s/\e = .returned (.tuple #[v,.int .i64 0])))/\Below w.heap.size w w'
theorem set_ans (c:Pc) (X:Nat->Prop) (P:Nat) (w:World) (t:Tok) (r:List Tok) (st:Sts) (d:Nat) (hpa:Pa c X P w (t::r) st d) :
 Calls Tryz.prog 180 #[.pointer (some ⟨P,0,none⟩)] w λe w'=>SetA X P (setM c.N t) w e w':=by
 have h1:=next_any c X P w t r st d hpa;have HPA:Hid (Pa c X P w (t::r) st d):=hpa;obtain ⟨_,_,_,_,_,_,_,_,_,_,_,_,_,_,hset,hby,hln,_⟩:=hpa.next;have HBY:Hid (Byt t.t/\t.t.length<=70000):=⟨hby,hln⟩;have HSET:Hid (IsSet t.s):=hset;obtain ⟨q,hq⟩ :∃q,q=setM c.N t:=⟨_,rfl⟩;rw [<- hq];have HQ:Hid (q=setM c.N t):=hq;clear hq hpa hset hby hln;go_enter Tryz.func180,Tryz.ntmps180
 go_wp2_with fail
 refine h1.mono ?_;rintro e w1 ⟨v,rfl,hr,hB⟩;obtain ⟨va,vc,rfl⟩:=hr.slice;have HR:Hid (RngS (Im X w P) w (.slice va t.s.length vc) t.s):=hr;have HF:Hid (Fr w.heap.size P w w1):=HPA.out.fr hB;clear h1 hr;unfold tokV;have hB2:Below w.heap.size w (w1.alloc (.cells #[.int .i64 t.k,.int .i64 (t.p:Int),.string (strOfNums t.t),.slice va t.s.length vc] 54)):=below_after hB (below_alloc _ _);have HP2:Hid (Pa c X P (w1.alloc (.cells #[.int .i64 t.k,.int .i64 (t.p:Int),.string (strOfNums t.t),.slice va t.s.length vc] 54)) (t::r) st d):=HPA.out.below hB2;have HB2:Hid (Below w.heap.size w (w1.alloc (.cells #[.int .i64 t.k,.int .i64 (t.p:Int),.string (strOfNums t.t),.slice va t.s.length vc] 54))):=hB2;have HE2:Hid _:=heap_new' w1 (.cells #[.int .i64 t.k,.int .i64 (t.p:Int),.string (strOfNums t.t),.slice va t.s.length vc] 54);clear hB2;by_cases h3:t.k=3
 · have HE:Hid (q = .inr t.s):=HQ.out.trans (setM_set h3);have h3':(t.k==3)=true:=by simpa using h3
   clear h3;go_wp2
   go_ret2
   exact ⟨.inr ⟨t.s,_,HE.out,HSET.out,HR.out.to (λk hk=>(HPA.out.fr HB2.out).all k hk),rfl⟩,HB2.out⟩
 · have h3':(t.k==3)=false:=by simpa using h3
   have H3:Hid (¬t.k=3):=h3;clear h3;obtain ⟨W,hW⟩ :∃W,W=(w1.alloc (.cells #[.int .i64 t.k,.int .i64 (t.p:Int),.string (strOfNums t.t),.slice va t.s.length vc] 54)):=⟨_,rfl⟩;have h4:Calls Tryz.prog 142 #[.pointer (some ⟨P,0,none⟩),.string ⟨#[46]⟩] (w1.alloc (.cells #[.int .i64 t.k,.int .i64 (t.p:Int),.string (strOfNums t.t),.slice va t.s.length vc] 54)) λe w'=>AnsB W (tkSign 46 t) e w':=by rw [hW];exact isSign_ans c X P _ t r st d HP2.out 46 (by decide)
   rw [<- hW] at HP2 HB2;have HE3:Hid (W.heap[w1.heap.size]? = some (.cells #[.int .i64 t.k,.int .i64 (t.p:Int),.string (strOfNums t.t),.slice va t.s.length vc] 54 (0,0))):=by show _=_;rw [hW];exact HE2.out
   clear hW HE2;cases h5:tkSign 46 t with
   | true =>
    rw [h5] at h4;have HE:Hid (q = .inr allS):=HQ.out.trans (setM_all H3.out h5)
    go_wp2_with fail
    refine h4.mono ?_;rintro e w2 ⟨rfl,hB3⟩;clear h4;have h6:=not_any [] IsSet.nil (.slice none 0 0) w2 (RngAt.nil _ _)
    go_wp2_with fail
    refine h6.mono ?_;rintro e w3 ⟨l,v,rfl,hu,ho,hB4⟩;obtain rfl:l=allS:=hu.unique all_upto;clear h6 hu;have HO:Hid (w3.ownsRow w2.heap.size 94 2 v allS.length (cellsRs allS)):=ho;obtain ⟨vb,vd,rfl,_⟩:=rng_of_row ho;clear ho;go_wp2
    go_ret2
    have hB5:=below_after (below_after HB2.out hB3) hB4;exact ⟨.inr ⟨allS,_,HE.out,allS_set,rngS_of_row HO.out (λk h1 h2=>(HPA.out.below (below_after HB2.out hB3)).fresh hB4 k h1 h2),rfl⟩,hB5⟩
   | false =>
    rw [h5] at h4
    go_wp2_with fail
    refine h4.mono ?_;rintro e w2 ⟨rfl,hB3⟩;clear h4;have HB3:Hid (Below w.heap.size w w2):=below_after HB2.out hB3;have HP3:Hid (Pa c X P w2 (t::r) st d):=HP2.out.below hB3;have h6:=isName_ans c X P w2 t r st d HP3.out;cases h7:tkName t with
    | false =>
     rw [h7] at h6;have HE:Hid (q = .inl 6):=HQ.out.trans (setM_bad H3.out h5 h7)
     go_wp2_with fail
     refine h6.mono ?_;rintro e w3 ⟨rfl,hB4⟩;clear h6;go_wp2
     go_ret2
     exact ⟨.inl ⟨6,HE.out,by decide,rfl⟩,below_after HB3.out hB4⟩
    | true =>
     rw [h7] at h6
     go_wp2_with fail
     refine h6.mono ?_;rintro e w3 ⟨rfl,hB4⟩;clear h6;have HB4:Hid (Below w.heap.size w w3):=below_after HB3.out hB4;have HP4:Hid (Pa c X P w3 (t::r) st d):=HP3.out.below hB4;obtain ⟨hmc,hnm⟩:=HP4.out.names;have hE4:w3.heap[w1.heap.size]? = some (.cells #[.int .i64 t.k,.int .i64 (t.p:Int),.string (strOfNums t.t),.slice va t.s.length vc] 54 (0,0)):=((below_after hB3 hB4).block _ (Array.getElem?_eq_some_iff.1 HE3.out).1).trans HE3.out;have d2:w3.cell? ⟨w1.heap.size,2,none⟩=some (.string (strOfNums t.t)):=cell_of_row _ _ 2 _ _ _ hE4;have hPl:=HP4.out.lt;clear hE4;rcases (nms_drew hnm).look t.t HBY.out.1 HBY.out.2 with ⟨hN,v,hrun⟩ | ⟨s,v,hN,hs,hr,hrun⟩
     · have HE:Hid (q = .inl 4):=HQ.out.trans (setM_none H3.out h5 h7 hN);clear hN hnm;go_wp2
       go_region
       go_wp2
       go_ret2
       exact ⟨.inl ⟨4,HE.out,by decide,rfl⟩,below_drewN' HB4.out 1⟩
     · have HE:Hid (q = .inr s):=HQ.out.trans (setM_some H3.out h5 h7 hN);have HRR:Hid (RngS (Im X w3 P) w3.drew v s):=hr;have HS:Hid (IsSet s):=hs;clear hN hnm hr hs;go_wp2
       go_region
       go_wp2
       go_ret2
       exact ⟨.inr ⟨s,v,HE.out,HS.out,HRR.out,rfl⟩,below_drewN' HB4.out 1⟩
set_option maxHeartbeats 4000000
set_option maxRecDepth 100000
theorem Pa.dep {c:Pc} {X:Nat->Prop} {P:Nat} {w:World} {ts:List Tok} {st:Sts} {d:Nat} (h:Pa c X P w ts st d):w.cell? ⟨P,5,none⟩=some (.int .i64 (d:Int))/\w.frozen? ⟨P,5,none⟩=false/\d<=20:=by
 obtain ⟨k,sv,h1,h2,h3⟩:=h;exact ⟨by rw [row_cell h1];rfl,row_frozen h1 5,h3⟩
theorem Pa.deep {c:Pc} {X:Nat->Prop} {P:Nat} {w:World} {ts:List Tok} {st:Sts} {d:Nat} (h:Pa c X P w ts st d) (d':Nat) (hd:d'<=20):Pa c X P (w.setCell ⟨P,5,none⟩ (.int .i64 (d':Int))) ts st d':=by
 obtain ⟨k,sv,h1,h2,h3⟩:=h;have hP:P<w.heap.size:=(Array.getElem?_eq_some_iff.1 h1).1;have h2':=h2;obtain ⟨e1,e2,e3,e4,e5,e6,e7,e8,e9,e10,e11⟩:=h2;refine ⟨k,sv,?_,h2'.to (λj hj=>(fr_own (n:=w.heap.size) (P:=P) w 5 (by decide) _).all j hj) (λj hj=>Below.heap_setCell w ⟨P,5,none⟩ _ j (λq=>e7 (by rw [hj];exact congrArg some q))) (λj hj=>by simpa [World.setCell] using e11 j hj),hd⟩;rw [heap_set h1];simp [Pc.row]
def leftP (n:Nat) (w:World) (P:Nat):Nat:=match w.cell? ⟨P,1,none⟩ with
 | some (.int _ k)=>n-k.toNat
 | _=>0
theorem Pa.left {c:Pc} {X:Nat->Prop} {P:Nat} {w:World} {ts:List Tok} {st:Sts} {d:Nat} (h:Pa c X P w ts st d):leftP c.n w P=ts.length:=by
 obtain ⟨k,sv,h1,h2,h3⟩:=h;obtain ⟨e1,_⟩:=h2;have:w.cell? ⟨P,1,none⟩=some (.int .i64 (k:Int)):=by rw [row_cell h1];rfl
 unfold leftP;rw [this];simp;omega
theorem Pa.ends {c:Pc} {X:Nat->Prop} {P:Nat} {w:World} {ts:List Tok} {st:Sts} {d:Nat} (h:Pa c X P w ts st d):EndsT ts:=by
 obtain ⟨k,sv,h1,h2,h3⟩:=h;obtain ⟨e1,e2,e3,e4,_⟩:=h2;exact e4
theorem RngS.fr {P:Nat} {w w':World} {X:Nat->Prop} {v:Value} {l:List Rg} (h:RngS (Im X w P) w v l) (hf:Fr w.heap.size P w w'):RngS (Im X w' P) w' v l:=h.to (λk hk=>hf.all k hk)
def QA (c:Pc) (X:Nat->Prop) (P:Nat) (st:Sts) (d:Nat) (q:QR) (w:World) (e:Ending) (w':World):Prop :=
 ∃v s x r,e = .returned (.tuple #[v,.int .i64 x])/\IsSet s/\RngS (Im X w' P) w' v s/\Pa c X P w' r st d/\Fr w.heap.size P w w'/\((x≠0/\q = .inl (r,x))\/(x=0/\q = .inr (s,r)))
theorem endedR_any (c:Pc) (X:Nat->Prop) (P:Nat) (w:World) (st:Sts) (d:Nat) (q:QR) (x:Int) (hx:0<=x/\x<=255)
 (hcall:Calls Tryz.prog 117 #[.pointer (some ⟨P,0,none⟩)] w λe w'=>QA c X P st d q w e w') :
 Calls Tryz.prog 116 #[.pointer (some ⟨P,0,none⟩),.func (.func 117) #[.pointer (some ⟨P,0,none⟩)] #[],.string (strOfNums [x])] w λe w'=>QA c X P st d (endQ x q) w e w':=by
 go_enter Tryz.func116,Tryz.ntmps116
 go_wp2_with fail
 refine hcall.mono ?_;rintro e w1 ⟨v,s,y,r,rfl,hs,hr,hp,hf,hq⟩;obtain ⟨va,vc,rfl⟩:=hr.slice;have HR:Hid (RngS (Im X w1 P) w1 (.slice va s.length vc) s):=hr;have HS:Hid (IsSet s):=hs;clear hcall hs hr;rcases hq with ⟨hy,rfl⟩ | ⟨rfl,rfl⟩
 · have hy':(y==0)=false:=by simpa using hy
   have HY:Hid (y≠0):=hy;clear hy;go_wp2
   go_ret2
   exact ⟨_,s,y,r,rfl,HS.out,HR.out,hp,hf,.inl ⟨HY.out,rfl⟩⟩
 · obtain ⟨t,r',rfl⟩:=hp.ends.cons;have h2:=takesSign_ans c X P w1 t r' st d hp x hx;cases h3:tkSign x t with
   | true =>
    rw [h3] at h2;have HE:Hid (endQ x (.inr (s,t::r')) = .inr (s,r')):=by
     show _=_;simp [endQ,hdT,h3]
    go_wp2_with fail
    refine h2.mono ?_;rintro e w2 ⟨rfl,hp2,hf2⟩;clear h2;go_wp2
    go_ret2
    exact ⟨_,s,0,r',rfl,HS.out,HR.out.fr hf2,hp2,hf.then hf2 hf.size,.inr ⟨rfl,HE.out⟩⟩
   | false =>
    rw [h3] at h2;have HE:Hid (endQ x (.inr (s,t::r')) = .inl (t::r',6)):=by
     show _=_;simp [endQ,hdT,h3]
    go_wp2_with fail
    refine h2.mono ?_;rintro e w2 ⟨rfl,hp2,hf2⟩;clear h2;go_wp2
    go_ret2
    exact ⟨_,s,6,t::r',rfl,HS.out,HR.out.fr hf2,hp2,hf.then hf2 hf.size,.inl ⟨by decide,HE.out⟩⟩
theorem deeperR_full (c:Pc) (X:Nat->Prop) (P:Nat) (w:World) (ts:List Tok) (st:Sts) (g:Nat) (bs cs:Array Value) (hpa:Pa c X P w ts st 20) :
 Calls Tryz.prog 177 #[.pointer (some ⟨P,0,none⟩),.func (.func g) bs cs] w λe w'=>QA c X P st 20 (.inl (ts,3)) w e w':=by
 obtain ⟨c5,f5,_⟩:=hpa.dep;have hP:=hpa.lt;have HP:Hid (Pa c X P w ts st 20):=hpa;clear hpa;go_enter Tryz.func177,Tryz.ntmps177;go_wp2
 go_ret2
 exact ⟨_,[],3,ts,rfl,IsSet.nil,RngS.nil _ _,HP.out,Fr.refl _ _ _,.inl ⟨by decide,rfl⟩⟩
theorem deeperR_any (c:Pc) (X:Nat->Prop) (P:Nat) (w:World) (t:Tok) (r:List Tok) (st:Sts) (d:Nat) (g:Nat) (bs cs:Array Value) (q:QR)
 (eg:∀args w,(callFunc g args).run Tryz.prog w = .ok (.enter g args) w) (hd:d<20) (hk:t.k≠4) (hpa:Pa c X P w (t::r) st d)
 (hcall:∀w1,Pa c X P w1 r st (d+1)->Fr w.heap.size P w w1->Calls Tryz.prog g (bs++cs) w1 λe w'=>QA c X P st (d+1) q w1 e w') :
 Calls Tryz.prog 177 #[.pointer (some ⟨P,0,none⟩),.func (.func g) bs cs] w λe w'=>QA c X P st d q w e w':=by
 obtain ⟨c5,f5,_⟩:=hpa.dep;have hP:=hpa.lt;have h1:=take_any c X P w t r st d hpa hk;have hd20:((d:Int)==20)=false:=by simp;omega
 have HC:Hid (∀w1,Pa c X P w1 r st (d+1)->Fr w.heap.size P w w1->Calls Tryz.prog g (bs++cs) w1 λe w'=>QA c X P st (d+1) q w1 e w'):=hcall;clear hpa hcall;go_enter Tryz.func177,Tryz.ntmps177
 go_wp2_with fail
 refine h1.mono ?_;rintro e w1 ⟨rfl,hp1,hf1,hs1⟩;clear h1 c5 f5;obtain ⟨c5,f5,_⟩:=hp1.dep;have hP1:=hp1.lt;have hp2:=hp1.deep (d+1) (by omega);rw [show ((d+1:Nat):Int)=(d:Int)+1 by simp] at hp2;have hf2:Fr w.heap.size P w (w1.setCell ⟨P,5,none⟩ (.int .i64 ((d:Int)+1))):=hf1.trans (fr_own w1 5 (by decide) _);have h2:=HC.out _ hp2 hf2
 go_wp2_with fail
 refine h2.mono ?_;rintro e w2 ⟨v,s,y,r2,rfl,hs,hr,hp,hf,hq⟩;obtain ⟨va,vc,rfl⟩:=hr.slice;have HR:Hid (RngS (Im X w2 P) w2 (.slice va s.length vc) s):=hr;have HS:Hid (IsSet s):=hs;have HQ:Hid ((y≠0/\q = .inl (r2,y))\/(y=0/\q = .inr (s,r2))):=hq;have HP:Hid (Pa c X P w2 r2 st (d+1)):=hp;have HF:Hid (Fr w.heap.size P w w2):=hf2.then hf (by simp [World.setCell];omega)
 clear h2 hr hs hq c5 f5;obtain ⟨c5,f5,_⟩:=hp.dep;rw [show ((d+1:Nat):Int)=(d:Int)+1 by simp] at c5;have hP2:=hp.lt;clear hp hf hf2 hp2 hp1 hf1;go_wp2
 go_ret2
 have hf5:Fr w2.heap.size P w2 (w2.setCell ⟨P,5,none⟩ (.int .i64 (d:Int))):=fr_own w2 5 (by decide) _;exact ⟨_,s,y,r2,rfl,HS.out,HR.out.fr hf5,HP.out.deep d (by omega),HF.out.then hf5 HF.out.size,HQ.out⟩
theorem bracketR1_any (c:Pc) (X:Nat->Prop) (P B1 B2:Nat) (w:World) (st:Sts) (d:Nat) (q:QR) (h1:w.cell? ⟨B1,0,none⟩=some (.pointer (some ⟨P,0,none⟩))) (h2:w.cell? ⟨B2,0,none⟩=some (.func (.func 117) #[.pointer (some ⟨P,0,none⟩)] #[]))
 (hcall:Calls Tryz.prog 117 #[.pointer (some ⟨P,0,none⟩)] w λe w'=>QA c X P st d q w e w') :
 Calls Tryz.prog 206 #[.pointer (some ⟨B1,0,none⟩),.pointer (some ⟨B2,0,none⟩)] w λe w'=>QA c X P st d (endQ 41 q) w e w':=by
 have h3:Calls Tryz.prog 116 #[.pointer (some ⟨P,0,none⟩),.func (.func 117) #[.pointer (some ⟨P,0,none⟩)] #[],.string ⟨#[41]⟩] w λe w'=>QA c X P st d (endQ 41 q) w e w':=endedR_any c X P w st d q 41 (by decide) hcall;clear hcall;go_enter Tryz.func206,Tryz.ntmps206
 go_wp2_with fail
 refine h3.mono ?_;rintro e w2 ⟨v,s,y,r2,rfl,hs,hr,hp,hf,hq⟩;clear h3;go_wp2
 go_ret2
 exact ⟨_,s,y,r2,rfl,hs,hr,hp,hf,hq⟩
theorem bracketR_any (c:Pc) (X:Nat->Prop) (P:Nat) (w:World) (t:Tok) (r:List Tok) (st:Sts) (d:Nat) (q:QR) (hd:d<20) (hk:t.k≠4) (hpa:Pa c X P w (t::r) st d)
 (hcall:∀w1,Pa c X P w1 r st (d+1)->Calls Tryz.prog 117 #[.pointer (some ⟨P,0,none⟩)] w1 λe w'=>QA c X P st (d+1) q w1 e w') :
 Calls Tryz.prog 179 #[.pointer (some ⟨P,0,none⟩),.func (.func 117) #[.pointer (some ⟨P,0,none⟩)] #[]] w λe w'=>QA c X P st d (endQ 41 q) w e w':=by
 have HC:Hid (∀w1,Pa c X P w1 r st (d+1)->Calls Tryz.prog 117 #[.pointer (some ⟨P,0,none⟩)] w1 λe w'=>QA c X P st (d+1) q w1 e w'):=hcall;have HP:Hid (Pa c X P w (t::r) st d):=hpa;have hPl:=hpa.lt;clear hcall hpa;go_enter Tryz.func179,Tryz.ntmps179
 go_wp2_with fail
 have hB:Below w.heap.size w ((w.alloc (.cells #[.pointer (some ⟨P,0,none⟩)] 79)).alloc (.cells #[.func (.func 117) #[.pointer (some ⟨P,0,none⟩)] #[]] 152)):=below_after (below_alloc _ _) (below_alloc _ _);have hE1:((w.alloc (.cells #[.pointer (some ⟨P,0,none⟩)] 79)).alloc (.cells #[.func (.func 117) #[.pointer (some ⟨P,0,none⟩)] #[]] 152)).heap[w.heap.size]? = some (.cells #[.pointer (some ⟨P,0,none⟩)] 79 (0,0)):=((below_alloc _ _).block _ (by simp)).trans (heap_new' w _);have hE2:=heap_new' (w.alloc (.cells #[.pointer (some ⟨P,0,none⟩)] 79)) (.cells #[.func (.func 117) #[.pointer (some ⟨P,0,none⟩)] #[]] 152);rw [World.size_alloc] at hE2;have hsz:((w.alloc (.cells #[.pointer (some ⟨P,0,none⟩)] 79)).alloc (.cells #[.func (.func 117) #[.pointer (some ⟨P,0,none⟩)] #[]] 152)).heap.size=w.heap.size+2:=by simp
 have h1:=deeperR_any c X P _ t r st d 206 #[] #[.pointer (some ⟨w.heap.size,0,none⟩),.pointer (some ⟨w.heap.size+1,0,none⟩)] (endQ 41 q) (enters_of Tryz.func206 (by kernel_rfl) rfl) hd hk (HP.out.below hB) (λw1 hp1 hf1=>by
  have k1:=(hf1.keep w.heap.size (by omega) ((HP.out.less (X':=NoX) (λ_ q=>q.elim)).fresh hB _ (by omega) (by omega))).1.trans hE1;have k2:=(hf1.keep (w.heap.size+1) (by omega) ((HP.out.less (X':=NoX) (λ_ q=>q.elim)).fresh hB _ (by omega) (by omega))).1.trans hE2;exact bracketR1_any c X P w.heap.size (w.heap.size+1) w1 st (d+1) q (cell_of_row _ _ 0 _ _ _ k1) (cell_of_row _ _ 0 _ _ _ k2) (HC.out w1 hp1))
 refine h1.mono ?_;rintro e w2 ⟨v,s,y,r2,rfl,hs,hr,hp,hf,hq⟩;have HF:Hid (Fr w.heap.size P w w2):=(HP.out.fr hB).then hf (by omega)
 clear h1 hE1 hE2 hB;go_wp2
 go_ret2
 exact ⟨_,s,y,r2,rfl,hs,hr,hp,HF.out,hq⟩
end Go.Proofs.YtfdjchnckjgapaaGreatDoor
