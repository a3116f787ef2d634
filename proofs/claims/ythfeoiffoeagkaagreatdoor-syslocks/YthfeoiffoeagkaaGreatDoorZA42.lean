/-
  A tree, and an entry, as they come in as arguments.
-/
import Derived.Test.YthfeoiffoeagkaaGreatDoorZA3
import Derived.WalkKit
import Derived.ProofKit
import Derived.OpenShut
import Derived.ShutString
import Derived.ChangeOld
import Derived.Deep.DeepHandedRow
import Derived.Deep.Slices
import Derived.Lib.SmallJoins
import Derived.Carry
import Derived.SizedLaws
import Derived.Test.YthfeoiffoeagkaaGreatDoorRows
namespace Go.Proofs.YthfeoiffoeagkaaGreatDoor
open Go.ChangeShapes Go.WideShapes Go.ChangeAt Go.RowKit PM
set_option linter.unusedVariables false
set_option maxRecDepth 100000
variable {H:Type} {enc:TypeId × Value→H} {W:World}
theorem Da {base:Nat} {spare:Nat→Bool} {held:Bool} {fuel:Nat} {cs:List Value} {x:DataW H × List MemPlace} (h:DataW.trod enc Tryz.prog W base spare held fuel 53 cs=some x) :
  ∃ e:Ent,cs=encE e∧e.path.size≤maxLen∧e.text.size≤maxLen∧x.1=.agg [.lit (.string e.path.data.toList),.lit (.int .i64 e.kind),.lit (.string e.text.data.toList),.lit (.bool e.opq)]:=by
 obtain ⟨y0,y1,y2,y3,n,rfl,hl,h0,h1,h2,h3⟩:=Go.Joins.trod_struct4 Tryz.underlying53 h
 have c9:Tryz.prog.cellsOf 9=1:=by kernel_rfl
 have c3:Tryz.prog.cellsOf 3=1:=by kernel_rfl
 have c4:Tryz.prog.cellsOf 4=1:=by kernel_rfl
 have c38:Tryz.prog.cellsOf 53=4:=by kernel_rfl
 simp only [c9,c3,c4] at h0 h1 h2 h3
 obtain ⟨s,e0,rfl,hs⟩:=DataW.trod_string Tryz.underlying9 h0
 obtain ⟨k,e1,rfl,_⟩:=DataW.trod_int Tryz.underlying3 h1
 obtain ⟨u,e2,rfl,hu⟩:=DataW.trod_string Tryz.underlying9 h2
 obtain ⟨b,e3,rfl⟩:=DataW.trod_bool Tryz.underlying4 h3
 rw [c38] at hl
 match cs,hl with
 | [v0,v1,v2,v3],_ =>
  simp at e0 e1 e2 e3
  subst e0 e1 e2 e3
  exact ⟨⟨s,k,u,b⟩,rfl,hs,hu,rfl⟩
theorem mD {a:Addr} {v:Value} (h:W.cell? a=some v):a=⟨a.block,a.off,none⟩:=by
 obtain ⟨b,o,s⟩:=a
 cases s with
 | none=>rfl
 | some x =>
  simp only [World.cell?] at h
  split at h
  ·simp at h
  ·cases h
end Go.Proofs.YthfeoiffoeagkaaGreatDoor
namespace Go.Proofs.YthfeoiffoeagkaaGreatDoor
open Go.ChangeShapes Go.WideShapes Go.ChangeAt Go.RowKit PM
set_option linter.unusedVariables false
set_option maxRecDepth 100000
variable {H:Type} {enc:TypeId × Value→H} {W:World}
def entD {H:Type} (e:Ent):DataW H:=.agg [.lit (.string e.path.data.toList),.lit (.int .i64 e.kind),.lit (.string e.text.data.toList),.lit (.bool e.opq)]
end Go.Proofs.YthfeoiffoeagkaaGreatDoor
