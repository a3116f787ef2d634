/-
  Proved: for every input the statement TopAnew (the whole: gone, and made anew, it is empty: a directory that lay below, emptied, removed, and made again, has nothing in it) returns true, and its arguments read afterwards as before.
  Conditions: the form's own (each string and slice within the form's reach); the two tables of unicode/utf8 that the row lists hold what the program's text lays: the card ties them. No condition of the prover's own.
-/
import Derived.Test.YthfeoiffoeagkaaGreatDoorVA54
import Derived.WalkKit
import Derived.ProofKit
import Derived.OpenShut
import Derived.ShutString
import Derived.ChangeOld
import Derived.Deep.DeepHandedRow
import Derived.Deep.Slices
import Derived.Lib.SmallJoins
import Derived.Carry
import Derived.SizedLaws
import Derived.Test.YthfeoiffoeagkaaGreatDoorCards
import Derived.Test.YthfeoiffoeagkaaGreatDoorTie
import Derived.Shelf.LaysM
namespace Go.Proofs.YthfeoiffoeagkaaGreatDoor.topAnewDone
open Go.ChangeShapes Go.WideShapes Go.ChangeAt Go.RowKit PM
open Go.ChangeMaps (open_string shut_string)
theorem own : ownKnob Tryz.prog.godebug = none:=by kernel_rfl
theorem maxLen_cell (w : World) (h : w.ShapedOpen Tryz.prog) : ∃ m,w.cell? ⟨0,0,none⟩ = some (.int .i64 m) :=
 Go.Proofs.cell_of_shapedOpen_int (zero:=#[.int .i64 0]) (t:=3) h (of_decide_eq_true (by kernel_rfl)) (by kernel_rfl) rfl (by kernel_rfl) (by kernel_rfl) Tryz.underlying3
theorem laidOut : laidOutB Tryz.prog = true:=by kernel_rfl
set_option maxRecDepth 100000 in
theorem contract (H : Type) (enc : TypeId × Value → H) (W : World) (base : Nat) (args : Array Value) (ds gs : List (DataW H)) (before : List MemPlace)
  (hval : ∀ (j : Nat) t v,Tryz.f12.params[j]? = some t → args[j]? = some v → Value.okWide Tryz.prog W .any base t v)
  (hW : DataW.Whole enc Tryz.prog Tryz.f12.params.toList Rows.topAnewSpec.vars false W args.toList ds gs before)
  (hz : (DataW.weightsEach Tryz.prog (Tryz.f12.params.toList ++ Rows.topAnewSpec.plain.varTypes Tryz.prog) (ds ++ gs)).all (· ≤ reachBytes) = true) (hSh : W.ShapedOpen Tryz.prog) :
  Calls Tryz.prog 12 args W fun e W' => ∃ v,e = .returned v ∧ Rows.topAnewSpec.post enc Tryz.prog Tryz.f12 false true false false W args v W':=by
 have hW':=hW
 obtain ⟨p,q,hA0,hV,rfl,hfz,hnd⟩:=hW
 have hA : DataW.TrodAll enc Tryz.prog W 0 (fun _ => true) true Tryz.f12.params.toList args.toList ds p:=hA0
 rw [Tryz.params12] at hA hval hz
 obtain ⟨v0,vs0,d0,ds0,p0,q0,hargs,rfl,rfl,h0,r0⟩:=trodAll_cons hA
 obtain ⟨rfl,rfl,rfl⟩:=trodAll_nil r0
 obtain rfl : args = #[v0]:=by cases args;simp_all
 obtain ⟨rfl,rfl⟩:=trodVars_none hV
 simp only [List.append_nil] at hW' hz
 have hlt0 : ∀ x ∈ p0,x.block < W.heap.size:=fun x hx => hW'.lt x (by simp [hx])
 obtain ⟨t,rfl,_,_,ht⟩:=open_string Tryz.underlying9 (hval 0 9 v0 rfl rfl) h0
 have hg : Gl W.heap.size W:=by
  obtain ⟨m,hm⟩:=maxLen_cell W hSh
  exact ⟨block_lt_of_cell hm,m,hm⟩
 clear hA0
 refine (topAnew_law t ht W hg).mono fun e W' ⟨he,bel⟩ => ?_
 subst he
 exact ⟨_,rfl,_,_,_,[],p0 ++ [],[],hW',trodAll_cons_mk (shut_bool Tryz.underlying4 _) trodAll_mk0,
  trodAll_cons_mk (Below.trod laidOut (by kernel_rfl) (of_decide_eq_true (by kernel_rfl)) h0 bel hlt0) (trodAll_mk0),rfl,bel.frame _,fun h => by cases h⟩
def lay1 : Obj → Obj
 | .cells _ t frozen => .cells (Pinned.utf8FirstZ.map fun (n : Nat) => Value.int .u8 n).toArray t frozen
 | o => o
def lay2 : Obj → Obj
 | .cells _ t frozen => .cells (([128,191,160,191,128,159,144,191,128,143] ++ List.replicate 22 0).map fun (n : Nat) => Value.int .u8 n).toArray t frozen
 | o => o
noncomputable def laidWorld (os : Os) : World :=
 { World.holding Tryz.prog os ⟨#[],#[],[]⟩ with heap:=((World.holding Tryz.prog os ⟨#[],#[],[]⟩).heap.modify 1 lay1).modify 2 lay2 }
theorem laid_met (os : Os) : laidMet Tryz.prog Rows.topAnewRow.laid ((laidWorld os).forCall (fun _ _ => 0) ⟨#[],#[.string ByteArray.empty],[]⟩).memory :=
 laidMet_of_run' 8 (by kernel_rfl) (by kernel_rfl)
theorem reads (os : Os) {H : Type} (enc : TypeId × Value → H) : ∃ places,DataW.whole enc Tryz.prog ((laidWorld os).forCall (fun _ _ => 0) ⟨#[],#[.string ByteArray.empty],[]⟩).memory Tryz.f12.params.toList Rows.topAnewSpec.vars false #[Value.string ByteArray.empty].toList 8 = some ([.lit (.string [])],[],places) :=
 ⟨[],by kernel_rfl⟩
set_option maxRecDepth 100000 in
theorem lifted (os : Os) (started : os.Started) (H : Type) (enc : TypeId × Value → H) (F : Stop.Interp) :
  ReturnsInHanded {} Tryz.checked os 12 .any ((OpenSpec.ofChange Rows.topAnewSpec).preRow enc Tryz.prog Tryz.f12 Rows.topAnewRow.domain false Rows.topAnewRow.laid) (((OpenSpec.ofChange Rows.topAnewSpec).at F).post enc Tryz.prog Tryz.f12 false true false false):=by
 obtain ⟨places,hx⟩:=reads os enc
 refine returnsInHanded_of_row (C:=Tryz.checked) (s:=OpenSpec.ofChange Rows.topAnewSpec) own started (by kernel_rfl) Tryz.func12
  (witness_row_at (enc:=enc) (C:=Tryz.checked) false (laidWorld os) #[.string ByteArray.empty] rfl (by kernel_rfl) (by kernel_rfl) (by kernel_rfl)
    (OpenSpec.preRow_of_cond 8 hx (by kernel_rfl) (fun k hk => by cases hk) (by kernel_rfl) (laid_met os))) ?_
 intro W base args ds gs before hval hW _ _ hz _ hSh _
 exact contract H enc W base args ds gs before hval hW hz hSh
theorem g3 : mapsRowed Tryz.prog = true:=by kernel_rfl
theorem g10 : (Rows.topAnewRow.inPlace == Tryz.prog.inPlace 12) = true:=by kernel_rfl
theorem g11 : (Rows.topAnewRow.unfollowed == Tryz.prog.unfollowed 12) = true:=by kernel_rfl
theorem g12 : (Rows.topAnewRow.recurses == Tryz.prog.recurses 12) = true:=by kernel_rfl
theorem g13 : (Rows.topAnewRow.named == Tryz.prog.varsNamed 12) = true:=by kernel_rfl
theorem closed : joinedFacts Tryz.pinned.checked.prog 12 Tryz.f12 (OpenSpec.ofChange Rows.topAnewSpec).bare Rows.topAnewRow = true:=by
 unfold joinedFacts
 simp only [Bool.and_eq_true]
 exact ⟨⟨⟨⟨⟨⟨⟨⟨⟨⟨⟨⟨⟨⟨⟨⟨⟨⟨⟨⟨⟨⟨⟨⟨⟨⟨⟨⟨⟨⟨⟨by kernel_rfl,laidOut⟩,g3⟩,by kernel_rfl⟩,by kernel_rfl⟩,by kernel_rfl⟩,by kernel_rfl⟩,by kernel_rfl⟩,by kernel_rfl⟩,g10⟩,g11⟩,g12⟩,g13⟩,by kernel_rfl⟩,by kernel_rfl⟩,by kernel_rfl⟩,by kernel_rfl⟩,by kernel_rfl⟩,by kernel_rfl⟩,by kernel_rfl⟩,by kernel_rfl⟩,by kernel_rfl⟩,by kernel_rfl⟩,by kernel_rfl⟩,by kernel_rfl⟩,by kernel_rfl⟩,by kernel_rfl⟩,by kernel_rfl⟩,by kernel_rfl⟩,by kernel_rfl⟩,by kernel_rfl⟩,by kernel_rfl⟩
theorem said : Rows.TopAnewSaid :=
 OpenClaim.holds_of_cond 12 Tryz.f12 rfl rfl rfl rfl rfl rfl rfl ⟨rfl,rfl,rfl,rfl,rfl⟩ rfl rfl rfl rfl rfl (by kernel_rfl) Tryz.func12 closed
  (of_decide_eq_true (by kernel_rfl)) (by unfold Func.isWrapper;first | (rw [if_pos (by decide +kernel)];kernel_rfl) | (rw [if_neg (by decide +kernel)];exact ⟨rfl,rfl⟩))
  (fun os started H enc _ F => by rw [OpenClaim.pre_eq_preRow];exact lifted os started H enc F)
theorem plain (f : FuncId) (fn : Func) (hf : Tryz.pinned.checked.prog.funcNamed "tracings/tracetop.TopAnew" = some f) (hfn : Tryz.pinned.checked.prog.funcs[f]? = some fn) :
  false = Tryz.pinned.checked.prog.looks [] ∧ ∀ (j : Nat) t,fn.params[j]? = some t → Tryz.pinned.checked.prog.wantsStandIn t = false:=by
 obtain rfl : f = 12:=Option.some.inj ((show Tryz.prog.funcNamed "tracings/tracetop.TopAnew" = some 12 by kernel_rfl).symm.trans hf) |>.symm
 obtain rfl : fn = Tryz.f12:=(Option.some.inj (Tryz.func12.symm.trans hfn)).symm
 refine ⟨by kernel_rfl,fun j t ht => ?_⟩
 rw [Tryz.params12] at ht
 have hmem:=Array.mem_of_getElem? ht
 simp at hmem
 subst hmem
 exact (show Tryz.prog.wantsStandIn 9 = false by kernel_rfl)
end Go.Proofs.YthfeoiffoeagkaaGreatDoor.topAnewDone
namespace Go.Proofs.YthfeoiffoeagkaaGreatDoor
theorem topAnew_card : Rows.TopAnewCardSaid :=
 Claim7.holds_tied_plain_at .later [] _ _ _ _ topAnewDone.said (fun _ h => by cases h) (by kernel_rfl) (fun _ h => by cases h) topAnew_row_tie rfl ⟨rfl,rfl⟩ (by kernel_rfl) rfl topAnewDone.plain (by kernel_rfl)
#print axioms topAnew_card
end Go.Proofs.YthfeoiffoeagkaaGreatDoor
