/-
  DERIVED. GIVEN WITH THE SEED: THE CARDS: each row of YtampldoimpfjgaaGreatDoorRows.lean that lists a variable, with what it lists TIED to the program's text (the seventh form; the later family's looks); each row that meets fmt, with fmt's text TOLD by the authors' own Lean function (tested against real Go, not proved from fmt's source: count such statements apart). THE CARD IS WHAT COUNTS. Prove the row's statement (the work); the ties are given (YtampldoimpfjgaaGreatDoorTie.lean); close each card by the builder's one call (the guide's Derived/Test/ToyasCard.lean, 'card_holds'). Laid BY PROGRAM, IN A SANDBOX (cutbox-door.mjs). By AI agents, Wed Nov 11 2026. No macro, syntax, notation, axiom, sorry.
-/
import Derived.Test.YtampldoimpfjgaaGreatDoorRows
import GoSem.ClaimSeven
namespace Go.Proofs.YtampldoimpfjgaaGreatDoor
namespace Rows

/-- THE TIED CARD OF 'tracelaw4.UnionTells'. -/
def unionTellsCard : Claim7 := { stood := { row := unionTellsRow, standIns := [], harness := (true, "3fe4b79c0c9efa2f5fa8793830036796ece9074792cee0aeaba59d6ce0aef56e"), looks := false }, kinds := [], alts := [], laidByText := true, laidKinds := [.data, .pinned], laidTests := true, laidLooks := .later }
def UnionTellsCardSaid : Prop := Claim7.holds Tryz.pinned (.plain (OpenSpec.ofChange unionTellsSpec)) unionTellsCard

/-- THE SECOND FORM's CARD OF 'tracelaw4.UnionTells'. -/
def unionTellsUptoCard : Claim7 := { stood := { row := unionTellsUptoRow, standIns := [], harness := (true, "3fe4b79c0c9efa2f5fa8793830036796ece9074792cee0aeaba59d6ce0aef56e"), looks := false }, kinds := [], alts := [], laidByText := true, laidKinds := [.data, .pinned], laidTests := true, laidLooks := .later }
def UnionTellsUptoCardSaid : Prop := Claim7.holds Tryz.pinned (.plain (OpenSpec.upto unionTellsSpec)) unionTellsUptoCard
end Rows
end Go.Proofs.YtampldoimpfjgaaGreatDoor
