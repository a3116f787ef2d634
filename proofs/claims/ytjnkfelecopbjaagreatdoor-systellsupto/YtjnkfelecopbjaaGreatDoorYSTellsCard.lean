/-
  Proved: for every input the statement SysTells (chapter 6: Play tells what comes of any calls, and each one is answered as the document answers it) returns true, and its arguments read afterwards as before.
  Conditions: the form's own (what the statement reads is of bulk at most 1048576; each string and slice within the form's reach); the two tables of unicode/utf8 that the row lists hold what the program's text lays: the card ties them. No condition of the prover's own.
-/
import Derived.Test.YtjnkfelecopbjaaGreatDoorYA29
import Derived.Test.YtjnkfelecopbjaaGreatDoorYA30
import Derived.Test.YtjnkfelecopbjaaGreatDoorCards
import Derived.Test.YtjnkfelecopbjaaGreatDoorTie
open Go.Proofs.Tryz
open Bool renaming false->aH,true->aI
open Go.Proofs.Tryz renaming prog->aP
set_option linter.all false
set_option maxRecDepth 100000
namespace Go.Proofs.YtjnkfelecopbjaaGreatDoor.uA
open Go.ChangeShapes Go.WideShapes Go.ChangeAt Go.RowKit PM
open Go.ChangeMaps (open_string shut_string)
theorem own:ownKnob Tryz.prog.godebug=none:=by kernel_rfl
theorem Jc(w:World)(h:w.ShapedOpen aP):∃ m,w.cell? ⟨0,0,none⟩=some (.int .i64 m):=
 Go.Proofs.cell_of_shapedOpen_int (zero:=#[.int .i64 0]) (t:=3) h (dE (by kernel_rfl)) (by kernel_rfl) rfl (by kernel_rfl) (by kernel_rfl) underlying3
theorem laidOut:laidOutB aP=aI:=by kernel_rfl
theorem contract(H:Type)(enc:TypeId × Value->H)(W:World)(aS:Nat)(args:Array Value)(ds gs:List (DataW H))(before:List MemPlace)(hval:∀ (j:Nat) t v,f3.params[j]?=some t->args[j]?=some v->Value.okWide aP W .any aS t v)(hW:DataW.Whole enc aP f3.params.toList Rows.sysTellsSpec.vars aH W args.toList ds gs before)(hz:(DataW.weightsEach aP (f3.params.toList++Rows.sysTellsSpec.plain.varTypes aP) (ds++gs)).all (·<=reachBytes)=aI)(kV:Rows.uptoSmall H (ds++gs)=aI)(hSh:W.ShapedOpen aP):Calls aP 3 args W fun e W'=>∃ v,e=.returned v/\Rows.sysTellsSpec.post enc aP f3 aH aI aH aH W args v W':=by
 have hW':=hW;obtain⟨p,q,hA0,hV,rfl,Nr,En⟩:=hW;have hA:DataW.TrodAll enc aP W 0 (fun _=>aI) aI f3.params.toList args.toList ds p:=hA0;rw[params3]at hA hval hz;obtain⟨v0,vs0,d0,ds0,p0,q0,ah4,rfl,rfl,h0,r0⟩:=trodAll_cons hA;obtain⟨v1,vs1,d1,ds1,p1,q1,rfl,rfl,rfl,h1,r1⟩:=trodAll_cons r0;obtain⟨rfl,rfl,rfl⟩:=trodAll_nil r1;obtain rfl:args=#[v0,v1]:=by cases args;simp_all
 obtain⟨rfl,rfl⟩:=trodVars_none hV;simp only[fj]at hW' hz kV;have af3:∀ x∈p0,x.block<W.heap.size:=fun x hx=>hW'.lt x (by simp[hx])
 have af4:∀ x∈p1,x.block<W.heap.size:=fun x hx=>hW'.lt x (by simp[hx])
 obtain⟨y,ls,pl,cl,rfl,hy,hT,zd,ir,iR,dd0,dd1,DW,hD0,hD1⟩:=LX (hval 0 26 v0 rfl rfl) h0;have wM:eZ W y ls pl cl:=TZ hy hT zd ir iR hD0 hD1 (fun x hx=>by
  have:=sP.1 hz x (DataW.weights_mem_each (j:=0) (t:=26) (d:=d0) rfl rfl x (by rw[DW];exact hx));simpa using this)
 have hbu:Rows.uptoBulk d0=Rows.uptoBulk (DataW.agg [dd0,dd1]):=by rw[DW]
 obtain⟨a1,len1,ajG,rfl⟩:=okWide_slice underlying27 (hval 1 27 v1 rfl rfl);obtain⟨pc,cc,l,UF,hC,hCD⟩:=LV h1 rfl;simp only[Value.slice.injEq]at UF;obtain⟨rfl,rfl,rfl⟩:=UF;have hb:Rows.uptoBulkAll [d0,d1]<=1048576:=dE kV;simp only[Rows.uptoBulkAll]at hb;simp only[Rows.uptoBulkAll,Rows.uptoBulk]at hbu;have Am:∀ x∈y::ls,∀ e∈x.es,e.bm.size<=1048576/\e.text.size<=1048576:=fun x hx=>by
  rcases cX.1 hx with rfl|hx
  ·exact(DH hD0 (by omega)).1
  ·rcases hD1 with⟨_,rfl⟩|⟨el,sp,rfl,hle,he⟩
   ·simp at hx
   ·simp only[Rows.uptoBulk]at hbu
    obtain⟨j,hj⟩:=tN hx;obtain⟨dx,hdx,hD⟩:=he j x hj;have h1:=yQ (bw hdx);exact(DH hD (by omega)).1
 have hs:∀ c∈l,c.bm.size<=1048576/\c.tw.size<=1048576/\c.text.size<=1048576:=fun c hc=>by
  rcases hCD with⟨_,rfl⟩|⟨el,sp,rfl,hle,he⟩
  ·simp at hc
  ·simp only[Rows.uptoBulk]at hb
   obtain⟨j,hj⟩:=tN hc;have h1:=yQ (bw (he j c hj));simp only[M8,Rows.uptoBulk,Rows.uptoBulkAll,PM.ix]at h1;exact⟨by omega,by omega,by omega⟩
 have hg:Gl W W:=by obtain⟨m,hm⟩:=Jc W hSh;exact⟨bg hm,m,hm⟩
 clear hA0;refine(Qa y ls pl cl _ _ l W wM hg Am hC hs).mono fun e W' ⟨he,bel⟩=>?_
 subst he;exact⟨_,rfl,_,_,_,[],p0++(p1++[]),[],hW',trodAll_cons_mk (shut_bool underlying4 _) trodAll_mk0,trodAll_cons_mk (Below.trod laidOut (by kernel_rfl) (dE (by kernel_rfl)) h0 bel af3) (trodAll_cons_mk (Below.trod laidOut (by kernel_rfl) (dE (by kernel_rfl)) h1 bel af4) (trodAll_mk0)),rfl,bel.frame _,fun h=>by cases h⟩
def agD:Obj->Obj
 | .cells _ t frozen=>.cells (Pinned.utf8FirstZ.map fun(n:Nat)=>Value.int .u8 n).toArray t frozen
 | o=>o
def agE:Obj->Obj
 | .cells _ t frozen=>.cells (([128,191,160,191,128,159,144,191,128,143]++List.replicate 22 0).map fun(n:Nat)=>Value.int .u8 n).toArray t frozen
 | o=>o
noncomputable def Aw(os:Os):World:=
 { World.holding aP os ⟨#[],#[],[]⟩with heap:=((World.holding aP os ⟨#[],#[],[]⟩).heap.modify 1 agD).modify 2 agE }
theorem SQ(os:Os):laidMet aP Rows.sysTellsUptoRow.laid ((Aw os).forCall (fun _ _=>0) ⟨#[],#[.agg #[.slice none 0 0,.slice none 0 0],.slice none 0 0],[]⟩).memory:=
 laidMet_of_run' 8 (by kernel_rfl) (by kernel_rfl)
theorem reads(os:Os){H:Type}(enc:TypeId × Value->H):∃ places,DataW.whole enc aP ((Aw os).forCall (fun _ _=>0) ⟨#[],#[.agg #[.slice none 0 0,.slice none 0 0],.slice none 0 0],[]⟩).memory f3.params.toList Rows.sysTellsSpec.vars aH #[Value.agg #[.slice none 0 0,.slice none 0 0],.slice none 0 0].toList 8=some ([.agg [.nil,.nil],.nil],[],places):=
 ⟨[],by kernel_rfl⟩
theorem lifted(os:Os)(started:os.Started)(H:Type)(enc:TypeId × Value->H)(F:Stop.Interp):ReturnsInHanded {} Tryz.checked os 3 .any ((Rows.OpenSpec.upto Rows.sysTellsSpec).preRow enc aP f3 Rows.sysTellsUptoRow.domain aH Rows.sysTellsUptoRow.laid) (((Rows.OpenSpec.upto Rows.sysTellsSpec).at F).post enc aP f3 aH aI aH aH):=by
 obtain⟨places,hx⟩:=reads os enc;refine returnsInHanded_of_row (C:=Tryz.checked) (s:=Rows.OpenSpec.upto Rows.sysTellsSpec) own started (by kernel_rfl) func3
  (witness_row_at (enc:=enc) (C:=Tryz.checked) aH (Aw os) #[.agg #[.slice none 0 0,.slice none 0 0],.slice none 0 0] rfl (by kernel_rfl) (by kernel_rfl) (by kernel_rfl) (OpenSpec.preRow_of_cond 8 hx (by kernel_rfl) (fun k hk=>by cases hk;kernel_rfl) (by kernel_rfl) (SQ os))) ?_
 intro W aS args ds gs before hval hW _ abm hz _ hSh _;exact contract H enc W aS args ds gs before hval hW hz (abm _ rfl) hSh
theorem g3:mapsRowed aP=aI:=by kernel_rfl
theorem g10:(Rows.sysTellsUptoRow.inPlace == Tryz.prog.inPlace 3)=aI:=by kernel_rfl
theorem g11:(Rows.sysTellsUptoRow.unfollowed == Tryz.prog.unfollowed 3)=aI:=by kernel_rfl
theorem g12:(Rows.sysTellsUptoRow.recurses == Tryz.prog.recurses 3)=aI:=by kernel_rfl
theorem g13:(Rows.sysTellsUptoRow.named == Tryz.prog.varsNamed 3)=aI:=by kernel_rfl
theorem closed:joinedFacts Tryz.pinned.checked.prog 3 f3 (Rows.OpenSpec.upto Rows.sysTellsSpec).bare Rows.sysTellsUptoRow=aI:=by unfold joinedFacts;simp only[fh];exact⟨⟨⟨⟨⟨⟨⟨⟨⟨⟨⟨⟨⟨⟨⟨⟨⟨⟨⟨⟨⟨⟨⟨⟨⟨⟨⟨⟨⟨⟨⟨by kernel_rfl,laidOut⟩,g3⟩,by kernel_rfl⟩,by kernel_rfl⟩,by kernel_rfl⟩,by kernel_rfl⟩,by kernel_rfl⟩,by kernel_rfl⟩,g10⟩,g11⟩,g12⟩,g13⟩,by kernel_rfl⟩,by kernel_rfl⟩,by kernel_rfl⟩,by kernel_rfl⟩,by kernel_rfl⟩,by kernel_rfl⟩,by kernel_rfl⟩,by kernel_rfl⟩,by kernel_rfl⟩,by kernel_rfl⟩,by kernel_rfl⟩,by kernel_rfl⟩,by kernel_rfl⟩,by kernel_rfl⟩,by kernel_rfl⟩,by kernel_rfl⟩,by kernel_rfl⟩,by kernel_rfl⟩,by kernel_rfl⟩
theorem said:Rows.SysTellsUptoSaid:=
 OpenClaim.holds_of_cond 3 f3 rfl rfl rfl rfl rfl rfl rfl ⟨rfl,rfl,rfl,rfl,rfl⟩ rfl rfl rfl rfl rfl (by kernel_rfl) func3 closed
  (dE (by kernel_rfl)) (by unfold Func.isWrapper;first|(rw[aY (by decide +kernel)];kernel_rfl)|(rw[aW (by decide +kernel)];exact⟨rfl,rfl⟩))
  (fun os started H enc _ F=>by rw[OpenClaim.pre_eq_preRow];exact lifted os started H enc F)
theorem plain(f:FuncId)(fn:Func)(hf:Tryz.pinned.checked.prog.funcNamed "tracings/tracelaw6.SysTells" = some f)(hfn:Tryz.pinned.checked.prog.funcs[f]?=some fn):aH=Tryz.pinned.checked.prog.looks []/\∀ (j:Nat) t,fn.params[j]?=some t->Tryz.pinned.checked.prog.wantsStandIn t=aH:=by
 obtain rfl:f=3:=qB ((show Tryz.prog.funcNamed "tracings/tracelaw6.SysTells" = some 3 by kernel_rfl).symm.trans hf) |>.symm;obtain rfl:fn=f3:=(qB (func3.symm.trans hfn)).symm;refine⟨by kernel_rfl,fun j t ht=>?_⟩;rw[params3]at ht;have qy:=Array.mem_of_getElem? ht;simp at qy;rcases qy with rfl|rfl
 ·exact(show Tryz.prog.wantsStandIn 26=aH by kernel_rfl)
 ·exact(show Tryz.prog.wantsStandIn 27=aH by kernel_rfl)
end Go.Proofs.YtjnkfelecopbjaaGreatDoor.uA
namespace Go.Proofs.YtjnkfelecopbjaaGreatDoor
theorem sysTellsUpto_card:Rows.SysTellsUptoCardSaid:=
 Claim7.holds_tied_plain_at .later [] _ _ _ _ uA.said (fun _ h=>by cases h) (by kernel_rfl) (fun _ h=>by cases h) sysTellsUpto_row_tie rfl ⟨rfl,rfl⟩ (by kernel_rfl) rfl uA.plain (by kernel_rfl)
#print axioms sysTellsUpto_card
