/-
  TopFollows.
-/
import Derived.Test.YthfeoiffoeagkaaGreatDoorZA36
import Derived.KernelRfl
namespace Go.Proofs.YthfeoiffoeagkaaGreatDoor
open Go.RowKit PM Go.Sort
set_option linter.unusedVariables false
theorem yx (x:ByteArray):x.extract 0 x.size=x:=by simp
theorem Fu (x:ByteArray) (hx:x.size≤100):gI x 0 100=x:=by
 unfold gI
 have h1:(min (0:Int) x.size).toNat=0:=by omega
 have h3:(min (100:Int) x.size).toNat=x.size:=by omega
 rw [h1,yx,h3,yx]
end Go.Proofs.YthfeoiffoeagkaaGreatDoor
