/-
  Proved: scansionlaw08.SyntaxJoins returns true for every two slices of bytes (any length, nil too), and the arguments read as before; the listed variables of the library hold what the program's text lays (the card ties them).
-/
import Derived.Test.YtfdjchnckjgapaaGreatDoorCards
import Derived.Test.YtfdjchnckjgapaaGreatDoorTie
import Derived.Test.YtfdjchnckjgapaaGreatDoorZ40
import Derived.ChangeMaps
import Derived.Test.YtfdjchnckjgapaaGreatDoorZ52
namespace Go.Proofs.YtfdjchnckjgapaaGreatDoor.syntaxJoins
set_option maxRecDepth 100000
open Go.ChangeShapes Go.WideShapes Go.ChangeAt Go.RowKit
set_option linter.unusedVariables false
theorem contract (H:Type) (enc:TypeId×Value->H) (W:World) (base:Nat) (args:Array Value) (ds gs:List (DataW H)) (before:List MemPlace)
 (hval:∀(j:Nat) t v,Tryz.f7.params[j]? = some t->args[j]? = some v->Value.okWide Tryz.prog W .any base t v)
 (hW:DataW.Whole enc Tryz.prog Tryz.f7.params.toList Rows.syntaxJoinsSpec.vars false W args.toList ds gs before) (hL:laidMetH Tryz.prog Rows.syntaxJoinsRow.laid W) :
 Calls Tryz.prog 7 args W λe W'=>∃v,e = .returned v/\Rows.syntaxJoinsSpec.post enc Tryz.prog Tryz.f7 false true false false W args v W':=by
 have hL':laidMet Tryz.prog Rows.syntaxJoinsRow.laid W:=hL;have hm:SynV W:=syn_of hL'.tail.tail.tail.tail;have hW':=hW;obtain ⟨p,q,hA0,hV,rfl,hfz,hnd⟩:=hW;have hA:DataW.TrodAll enc Tryz.prog W 0 (λ_=>true) true Tryz.f7.params.toList args.toList ds p:=hA0;rw [Tryz.params7] at hA hval;obtain ⟨v0,vs0,d0,ds0,p0,q0,hargs,rfl,rfl,h0,r0⟩:=trodAll_cons hA;obtain ⟨v1,vs1,d1,ds1,p1,q1,rfl,rfl,rfl,h1,r1⟩:=trodAll_cons r0;obtain ⟨rfl,rfl,rfl⟩:=trodAll_nil r1;obtain rfl:args=#[v0,v1]:=by cases args;simp_all
 obtain ⟨rfl,rfl⟩:=trodVars_none hV;obtain ⟨a0,len0,cap0,rfl⟩:=okWide_slice Tryz.underlying22 (hval 0 22 v0 rfl rfl);have k0:=h0;have lt0:∀x∈p0,x.block<W.heap.size:=by obtain ⟨m,hm'⟩:=k0;exact DataW.trod_lt m _ _ _ hm'
 obtain ⟨l0,hl0,w0⟩:=open_bytesS h0;subst hl0;obtain ⟨a1,len1,cap1,rfl⟩:=okWide_slice Tryz.underlying22 (hval 1 22 v1 rfl rfl);have k1:=h1;have lt1:∀x∈p1,x.block<W.heap.size:=by obtain ⟨m,hm'⟩:=k1;exact DataW.trod_lt m _ _ _ hm'
 obtain ⟨l1,hl1,w1⟩:=open_bytesS h1;subst hl1;clear hA0;refine (syntaxJoins_any l0 w0.1 a0 cap0 l1 w1.1 a1 cap1 W hm w0.2.1 w1.2.1).mono λe W' ⟨he,bel⟩ => ?_;subst he;exact ⟨_,rfl,_,_,_,[],_,[],hW',trodAll_mk1 (shut_bool Tryz.underlying4 _),(trodAll_cons_mk (Below.trod laidOut7 (by kernel_rfl) (of_decide_eq_true (by kernel_rfl)) k0 bel lt0) (trodAll_cons_mk (Below.trod laidOut7 (by kernel_rfl) (of_decide_eq_true (by kernel_rfl)) k1 bel lt1) trodAll_mk0)),rfl,bel.frame _,λh=>by cases h⟩
theorem laid_met (os:Os):laidMet Tryz.prog Rows.syntaxJoinsRow.laid ((withVars (World.holding Tryz.prog os ⟨#[],#[],[]⟩)).forCall (λ_ _=>0) ⟨#[],#[.slice none 0 0,.slice none 0 0],[]⟩).memory :=
 laidMet_of_run' 8 (by kernel_rfl) (by kernel_rfl)
theorem reads (os:Os) {H:Type} (enc:TypeId×Value->H) :∃ds places,DataW.whole enc Tryz.prog ((withVars (World.holding Tryz.prog os ⟨#[],#[],[]⟩)).forCall (λ_ _=>0) ⟨#[],#[.slice none 0 0,.slice none 0 0],[]⟩).memory Tryz.f7.params.toList Rows.syntaxJoinsSpec.vars false #[Value.slice none 0 0,.slice none 0 0].toList 8=some (ds,[],places) :=
 ⟨[.nil,.nil],[],by kernel_rfl⟩
theorem lifted (os:Os) (started:os.Started) (H:Type) (enc:TypeId×Value->H) (F:Stop.Interp) :
 ReturnsInHanded {} Tryz.checked os 7 .any ((OpenSpec.ofChange Rows.syntaxJoinsSpec).preRow enc Tryz.prog Tryz.f7 Rows.syntaxJoinsRow.domain false Rows.syntaxJoinsRow.laid) (((OpenSpec.ofChange Rows.syntaxJoinsSpec).at F).post enc Tryz.prog Tryz.f7 false true false false):=by
 obtain ⟨ds0,places,hx⟩:=reads os enc;refine returnsInHanded_of_row (C:=Tryz.checked) (s:=OpenSpec.ofChange Rows.syntaxJoinsSpec) own7 started (by kernel_rfl) Tryz.func7
  (witness_row_at (enc:=enc) (C:=Tryz.checked) false (withVars (World.holding Tryz.prog os ⟨#[],#[],[]⟩)) #[.slice none 0 0,.slice none 0 0] rfl (by kernel_rfl) (by kernel_rfl) (by kernel_rfl)
   (OpenSpec.preRow_of_cond 8 hx (by kernel_rfl) (λk hk=>by cases hk) (by kernel_rfl) (laid_met os))) ?_
 intro W base args ds gs before hval hW _ _ _ hL _ _;exact contract H enc W base args ds gs before hval hW hL
theorem said:Rows.SyntaxJoinsSaid :=
 OpenClaim.holds_of_cond 7 Tryz.f7 rfl rfl rfl rfl rfl rfl rfl ⟨rfl,rfl,rfl,rfl,rfl⟩ rfl rfl rfl rfl rfl (by kernel_rfl) Tryz.func7 (by kernel_rfl)
  (of_decide_eq_true (by kernel_rfl)) (by unfold Func.isWrapper;first | (rw [if_pos (by decide +kernel)];kernel_rfl) | (rw [if_neg (by decide +kernel)];exact ⟨rfl,rfl⟩))
  (λos started H enc _ F=>by rw [OpenClaim.pre_eq_preRow];exact lifted os started H enc F)
theorem plain (f:FuncId) (fn:Func) (hf:Tryz.pinned.checked.prog.funcNamed "scansion/scansionlaw08.SyntaxJoins" = some f) (hfn:Tryz.pinned.checked.prog.funcs[f]? = some fn) :
 true=Tryz.pinned.checked.prog.looks []/\∀(j:Nat) t,fn.params[j]? = some t->Tryz.pinned.checked.prog.wantsStandIn t=false:=by
 obtain rfl:f=7:=Option.some.inj ((show Tryz.prog.funcNamed "scansion/scansionlaw08.SyntaxJoins" = some 7 by kernel_rfl).symm.trans hf) |>.symm;obtain rfl:fn=Tryz.f7:=(Option.some.inj (Tryz.func7.symm.trans hfn)).symm;refine ⟨by kernel_rfl,λj t ht => ?_⟩;rw [Tryz.params7] at ht;have hm:=Array.mem_of_getElem? ht;simp at hm;subst hm
 · exact (show Tryz.prog.wantsStandIn 22=false by kernel_rfl)
theorem card:Rows.SyntaxJoinsCardSaid :=
 Claim7.holds_tied_plain_at .later [] _ _ _ _ said (λ_ h=>by cases h) (by kernel_rfl) (λ_ h=>by cases h) syntaxJoins_row_tie rfl ⟨rfl,rfl⟩ (by kernel_rfl) rfl plain (by kernel_rfl)
end Go.Proofs.YtfdjchnckjgapaaGreatDoor.syntaxJoins
namespace Go.Proofs.YtfdjchnckjgapaaGreatDoor
theorem syntaxJoins_proved:Rows.SyntaxJoinsCardSaid:=syntaxJoins.card
end Go.Proofs.YtfdjchnckjgapaaGreatDoor
