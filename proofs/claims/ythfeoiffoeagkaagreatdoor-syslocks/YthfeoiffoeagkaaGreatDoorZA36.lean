/-
  The whole: what the statements are made of.
-/
import Derived.Test.YthfeoiffoeagkaaGreatDoorZA35
namespace Go.Proofs.YthfeoiffoeagkaaGreatDoor
open Go.RowKit PM Go.Sort
set_option linter.unusedVariables false
end Go.Proofs.YthfeoiffoeagkaaGreatDoor
