/-
  Locks, and a lock, as they come in as arguments.
-/
import Derived.Test.YthfeoiffoeagkaaGreatDoorZA18
import Derived.Test.YthfeoiffoeagkaaGreatDoorRows
import Derived.WalkKit
import Derived.ProofKit
import Derived.OpenShut
import Derived.ShutString
import Derived.ChangeOld
import Derived.Deep.DeepHandedRow
import Derived.Deep.Slices
import Derived.Lib.SmallJoins
import Derived.Carry
import Derived.SizedLaws
namespace Go.Proofs.YthfeoiffoeagkaaGreatDoor.LK
open Go.ChangeShapes Go.WideShapes Go.ChangeAt Go.RowKit KM
set_option linter.unusedVariables false
set_option maxRecDepth 100000
variable {H:Type} {enc:TypeId × Value→H} {W:World}
theorem EW {base:Nat} {spare:Nat→Bool} {held:Bool} {fuel:Nat} {cs:List Value} {x:DataW H × List MemPlace} (h:DataW.trod enc Tryz.prog W base spare held fuel 58 cs=some x) :
  ∃ e:Lk,cs=encK e∧x.1=.agg [.lit (.int .i64 e.o),.lit (.int .i64 e.f),.lit (.int .i64 e.t),.lit (.bool e.a)]:=by
 obtain ⟨y0,y1,y2,y3,n,rfl,hl,h0,h1,h2,h3⟩:=Go.Joins.trod_struct4 Tryz.underlying58 h
 have c3:Tryz.prog.cellsOf 3=1:=by kernel_rfl
 have c4:Tryz.prog.cellsOf 4=1:=by kernel_rfl
 have c38:Tryz.prog.cellsOf 58=4:=by kernel_rfl
 simp only [c3,c4] at h0 h1 h2 h3
 obtain ⟨s,e0,rfl,_⟩:=DataW.trod_int Tryz.underlying3 h0
 obtain ⟨k,e1,rfl,_⟩:=DataW.trod_int Tryz.underlying3 h1
 obtain ⟨u,e2,rfl,_⟩:=DataW.trod_int Tryz.underlying3 h2
 obtain ⟨b,e3,rfl⟩:=DataW.trod_bool Tryz.underlying4 h3
 rw [c38] at hl
 match cs,hl with
 | [v0,v1,v2,v3],_ =>
  simp at e0 e1 e2 e3
  subst e0 e1 e2 e3
  exact ⟨⟨s,k,u,b⟩,rfl,rfl⟩
theorem qK {v:Value} {d:DataW H} {ps:List MemPlace} {base:Nat} (hok:Value.okWide Tryz.prog W .any base 58 v) (h:DataW.Trod enc Tryz.prog W 0 (fun _=>true) true 58 v d ps) :
  ∃ e:Lk,v=.agg #[.int .i64 e.o, .int .i64 e.f, .int .i64 e.t, .bool e.a]:=by
 obtain ⟨fuel,h⟩:=h
 obtain ⟨e,hc,_⟩:=EW h
 obtain ⟨cs,rfl,_⟩:=okWide_struct Tryz.underlying58 hok
 refine ⟨e,?_⟩
 have:cs=(encK e).toArray:=by
  have hcc:cs.toList=encK e:=hc
  rw [← hcc]
 rw [this];rfl
theorem mD {a:Addr} {v:Value} (h:W.cell? a=some v):a=⟨a.block,a.off,none⟩:=by
 obtain ⟨b,o,s⟩:=a
 cases s with
 | none=>rfl
 | some x =>
  simp only [World.cell?] at h
  split at h
  ·simp at h
  ·cases h
end Go.Proofs.YthfeoiffoeagkaaGreatDoor.LK
