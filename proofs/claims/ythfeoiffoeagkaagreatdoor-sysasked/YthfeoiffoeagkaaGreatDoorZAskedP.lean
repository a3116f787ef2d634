/-
  Proved: for every input the statement SysAsked (chapter 6: asking changes nothing: without calls that only ask all others are answered the same) returns true, and its arguments read afterwards as before.
  Conditions: the form's own (each string and slice within the form's reach); the two tables of unicode/utf8 that the row lists hold what the program's text lays: the card ties them. No condition of the prover's own.
-/
import Derived.Test.YthfeoiffoeagkaaGreatDoorZA63
import Derived.Test.YthfeoiffoeagkaaGreatDoorZA45
import Derived.WalkKit
import Derived.ProofKit
import Derived.OpenShut
import Derived.ShutString
import Derived.ChangeOld
import Derived.Deep.DeepHandedRow
import Derived.Deep.Slices
import Derived.Lib.SmallJoins
import Derived.Carry
import Derived.SizedLaws
import Derived.Test.YthfeoiffoeagkaaGreatDoorCards
import Derived.Test.YthfeoiffoeagkaaGreatDoorTie
import Derived.Shelf.LaysM
namespace Go.Proofs.YthfeoiffoeagkaaGreatDoor.sysAskedDone
open Go.ChangeShapes Go.WideShapes Go.ChangeAt Go.RowKit PM
open Go.ChangeMaps (open_string shut_string)
theorem own:ownKnob Tryz.prog.godebug=none:=by kernel_rfl
theorem oK (w:World) (h:w.ShapedOpen Tryz.prog):∃ m,w.cell? ⟨0,0,none⟩=some (.int .i64 m) :=
 Go.Proofs.cell_of_shapedOpen_int (zero:=#[.int .i64 0]) (t:=3) h (of_decide_eq_true (by kernel_rfl)) (by kernel_rfl) rfl (by kernel_rfl) (by kernel_rfl) Tryz.underlying3
theorem laidOut:laidOutB Tryz.prog=true:=by kernel_rfl
set_option maxRecDepth 100000 in
theorem contract (H:Type) (enc:TypeId × Value→H) (W:World) (base:Nat) (args:Array Value) (ds gs:List (DataW H)) (before:List MemPlace)
  (hval:∀ (j:Nat) t v,Tryz.f7.params[j]?=some t→args[j]?=some v→Value.okWide Tryz.prog W .any base t v)
  (hW:DataW.Whole enc Tryz.prog Tryz.f7.params.toList Rows.sysAskedSpec.vars false W args.toList ds gs before)
  (hz:(DataW.weightsEach Tryz.prog (Tryz.f7.params.toList++Rows.sysAskedSpec.plain.varTypes Tryz.prog) (ds++gs)).all (·≤reachBytes)=true) (hSh:W.ShapedOpen Tryz.prog) :
  Calls Tryz.prog 7 args W fun e W'=>∃ v,e=.returned v∧Rows.sysAskedSpec.post enc Tryz.prog Tryz.f7 false true false false W args v W':=by
 have hW':=hW
 obtain ⟨p,q,hA0,hV,rfl,hfz,hnd⟩:=hW
 have hA:DataW.TrodAll enc Tryz.prog W 0 (fun _=>true) true Tryz.f7.params.toList args.toList ds p:=hA0
 rw [Tryz.params7] at hA hval hz
 obtain ⟨v0,vs0,d0,ds0,p0,q0,hargs,rfl,rfl,h0,r0⟩:=trodAll_cons hA
 obtain ⟨v1,vs1,d1,ds1,p1,q1,rfl,rfl,rfl,h1,r1⟩:=trodAll_cons r0
 obtain ⟨rfl,rfl,rfl⟩:=trodAll_nil r1
 obtain rfl:args=#[v0,v1]:=by cases args;simp_all
 obtain ⟨rfl,rfl⟩:=trodVars_none hV
 simp only [List.append_nil] at hW' hz
 have hlt0:∀ x∈p0,x.block<W.heap.size:=fun x hx=>hW'.lt x (by simp [hx])
 have hlt1:∀ x∈p1,x.block<W.heap.size:=fun x hx=>hW'.lt x (by simp [hx])
 obtain ⟨y,ls,pl,cl,rfl,hy,hT,hOK,hcap,hnil,dd0,dd1,hd0,hD0,hD1⟩:=vS (hval 0 26 v0 rfl rfl) h0
 have hUn:UnOK W y ls pl cl:=zR hy hT hOK hcap hnil hD0 hD1 (fun x hx=>by
  have:=List.all_eq_true.1 hz x (DataW.weights_mem_each (j:=0) (t:=26) (d:=d0) rfl rfl x (by rw [hd0];exact hx))
  simpa using this)
 obtain ⟨a1,len1,cap1,rfl⟩:=okWide_slice Tryz.underlying27 (hval 1 27 v1 rfl rfl)
 obtain ⟨pc,cc,l,hvv,hC,hCD⟩:=C9 h1 rfl
 simp only [Value.slice.injEq] at hvv
 obtain ⟨rfl,rfl,rfl⟩:=hvv
 obtain ⟨hsm,hln⟩:=J8 hCD (fun x hx=>by
  have:=List.all_eq_true.1 hz x (DataW.weights_mem_each (j:=1) (t:=27) (d:=d1) rfl rfl x hx)
  simpa using this)
 have hg:Gl W.heap.size W:=by
  obtain ⟨m,hm⟩:=oK W hSh
  exact ⟨block_lt_of_cell hm,m,hm⟩
 clear hA0
 refine (K8 y ls pl cl _ _ l W hUn hg hC hsm).mono fun e W' ⟨he,bel⟩=>?_
 subst he
 exact ⟨_,rfl,_,_,_,[],p0++(p1++[]),[],hW',trodAll_cons_mk (shut_bool Tryz.underlying4 _) trodAll_mk0,
  trodAll_cons_mk (Below.trod laidOut (by kernel_rfl) (of_decide_eq_true (by kernel_rfl)) h0 bel hlt0) (trodAll_cons_mk (Below.trod laidOut (by kernel_rfl) (of_decide_eq_true (by kernel_rfl)) h1 bel hlt1) (trodAll_mk0)),rfl,bel.frame _,fun h=>by cases h⟩
def lay1:Obj→Obj
 | .cells _ t frozen=>.cells (Pinned.utf8FirstZ.map fun (n:Nat)=>Value.int .u8 n).toArray t frozen
 | o=>o
def lay2:Obj→Obj
 | .cells _ t frozen=>.cells (([128,191,160,191,128,159,144,191,128,143]++List.replicate 22 0).map fun (n:Nat)=>Value.int .u8 n).toArray t frozen
 | o=>o
noncomputable def jM (os:Os):World :=
 { World.holding Tryz.prog os ⟨#[],#[],[]⟩ with heap:=((World.holding Tryz.prog os ⟨#[],#[],[]⟩).heap.modify 1 lay1).modify 2 lay2 }
theorem uP (os:Os):laidMet Tryz.prog Rows.sysAskedRow.laid ((jM os).forCall (fun _ _=>0) ⟨#[],#[.agg #[.slice none 0 0,.slice none 0 0],.slice none 0 0],[]⟩).memory :=
 laidMet_of_run' 8 (by kernel_rfl) (by kernel_rfl)
theorem reads (os:Os) {H:Type} (enc:TypeId × Value→H):∃ places,DataW.whole enc Tryz.prog ((jM os).forCall (fun _ _=>0) ⟨#[],#[.agg #[.slice none 0 0,.slice none 0 0],.slice none 0 0],[]⟩).memory Tryz.f7.params.toList Rows.sysAskedSpec.vars false #[Value.agg #[.slice none 0 0,.slice none 0 0],.slice none 0 0].toList 8=some ([.agg [.nil,.nil],.nil],[],places) :=
 ⟨[],by kernel_rfl⟩
set_option maxRecDepth 100000 in
theorem lifted (os:Os) (started:os.Started) (H:Type) (enc:TypeId × Value→H) (F:Stop.Interp) :
  ReturnsInHanded {} Tryz.checked os 7 .any ((OpenSpec.ofChange Rows.sysAskedSpec).preRow enc Tryz.prog Tryz.f7 Rows.sysAskedRow.domain false Rows.sysAskedRow.laid) (((OpenSpec.ofChange Rows.sysAskedSpec).at F).post enc Tryz.prog Tryz.f7 false true false false):=by
 obtain ⟨places,hx⟩:=reads os enc
 refine returnsInHanded_of_row (C:=Tryz.checked) (s:=OpenSpec.ofChange Rows.sysAskedSpec) own started (by kernel_rfl) Tryz.func7
  (witness_row_at (enc:=enc) (C:=Tryz.checked) false (jM os) #[.agg #[.slice none 0 0,.slice none 0 0],.slice none 0 0] rfl (by kernel_rfl) (by kernel_rfl) (by kernel_rfl)
    (OpenSpec.preRow_of_cond 8 hx (by kernel_rfl) (fun k hk=>by cases hk) (by kernel_rfl) (uP os))) ?_
 intro W base args ds gs before hval hW _ _ hz _ hSh _
 exact contract H enc W base args ds gs before hval hW hz hSh
theorem g3:mapsRowed Tryz.prog=true:=by kernel_rfl
theorem g10:(Rows.sysAskedRow.inPlace == Tryz.prog.inPlace 7)=true:=by kernel_rfl
theorem g11:(Rows.sysAskedRow.unfollowed == Tryz.prog.unfollowed 7)=true:=by kernel_rfl
theorem g12:(Rows.sysAskedRow.recurses == Tryz.prog.recurses 7)=true:=by kernel_rfl
theorem g13:(Rows.sysAskedRow.named == Tryz.prog.varsNamed 7)=true:=by kernel_rfl
theorem closed:joinedFacts Tryz.pinned.checked.prog 7 Tryz.f7 (OpenSpec.ofChange Rows.sysAskedSpec).bare Rows.sysAskedRow=true:=by
 unfold joinedFacts
 simp only [Bool.and_eq_true]
 exact ⟨⟨⟨⟨⟨⟨⟨⟨⟨⟨⟨⟨⟨⟨⟨⟨⟨⟨⟨⟨⟨⟨⟨⟨⟨⟨⟨⟨⟨⟨⟨by kernel_rfl,laidOut⟩,g3⟩,by kernel_rfl⟩,by kernel_rfl⟩,by kernel_rfl⟩,by kernel_rfl⟩,by kernel_rfl⟩,by kernel_rfl⟩,g10⟩,g11⟩,g12⟩,g13⟩,by kernel_rfl⟩,by kernel_rfl⟩,by kernel_rfl⟩,by kernel_rfl⟩,by kernel_rfl⟩,by kernel_rfl⟩,by kernel_rfl⟩,by kernel_rfl⟩,by kernel_rfl⟩,by kernel_rfl⟩,by kernel_rfl⟩,by kernel_rfl⟩,by kernel_rfl⟩,by kernel_rfl⟩,by kernel_rfl⟩,by kernel_rfl⟩,by kernel_rfl⟩,by kernel_rfl⟩,by kernel_rfl⟩
theorem said:Rows.SysAskedSaid :=
 OpenClaim.holds_of_cond 7 Tryz.f7 rfl rfl rfl rfl rfl rfl rfl ⟨rfl,rfl,rfl,rfl,rfl⟩ rfl rfl rfl rfl rfl (by kernel_rfl) Tryz.func7 closed
  (of_decide_eq_true (by kernel_rfl)) (by unfold Func.isWrapper;first | (rw [if_pos (by decide +kernel)];kernel_rfl) | (rw [if_neg (by decide +kernel)];exact ⟨rfl,rfl⟩))
  (fun os started H enc _ F=>by rw [OpenClaim.pre_eq_preRow];exact lifted os started H enc F)
theorem plain (f:FuncId) (fn:Func) (hf:Tryz.pinned.checked.prog.funcNamed "tracings/tracelaw6.SysAsked" = some f) (hfn:Tryz.pinned.checked.prog.funcs[f]?=some fn) :
  false=Tryz.pinned.checked.prog.looks []∧∀ (j:Nat) t,fn.params[j]?=some t→Tryz.pinned.checked.prog.wantsStandIn t=false:=by
 obtain rfl:f=7:=Option.some.inj ((show Tryz.prog.funcNamed "tracings/tracelaw6.SysAsked" = some 7 by kernel_rfl).symm.trans hf) |>.symm
 obtain rfl:fn=Tryz.f7:=(Option.some.inj (Tryz.func7.symm.trans hfn)).symm
 refine ⟨by kernel_rfl,fun j t ht=>?_⟩
 rw [Tryz.params7] at ht
 have hmem:=Array.mem_of_getElem? ht
 simp at hmem
 rcases hmem with rfl | rfl
 ·exact (show Tryz.prog.wantsStandIn 26=false by kernel_rfl)
 ·exact (show Tryz.prog.wantsStandIn 27=false by kernel_rfl)
end Go.Proofs.YthfeoiffoeagkaaGreatDoor.sysAskedDone
namespace Go.Proofs.YthfeoiffoeagkaaGreatDoor
theorem sysAsked_card:Rows.SysAskedCardSaid :=
 Claim7.holds_tied_plain_at .later [] _ _ _ _ sysAskedDone.said (fun _ h=>by cases h) (by kernel_rfl) (fun _ h=>by cases h) sysAsked_row_tie rfl ⟨rfl,rfl⟩ (by kernel_rfl) rfl sysAskedDone.plain (by kernel_rfl)
#print axioms sysAsked_card
end Go.Proofs.YthfeoiffoeagkaaGreatDoor
