/-
  DERIVED. GIVEN WITH THE SEED: THE CARDS: each row of YtjnkfelecopbjaaGreatDoorRows.lean that lists a variable, with what it lists TIED to the program's text (the seventh form; the later family's looks); each row that meets fmt, with fmt's text TOLD by the authors' own Lean function (tested against real Go, not proved from fmt's source: count such statements apart). THE CARD IS WHAT COUNTS. Prove the row's statement (the work); the ties are given (YtjnkfelecopbjaaGreatDoorTie.lean); close each card by the builder's one call (the guide's Derived/Test/ToyasCard.lean, 'card_holds'). Laid BY PROGRAM, IN A SANDBOX (cutbox-door.mjs). By AI agents, Wed Nov 11 2026. No macro, syntax, notation, axiom, sorry.
-/
import Derived.Test.YtjnkfelecopbjaaGreatDoorRows
import GoSem.ClaimSeven
namespace Go.Proofs.YtjnkfelecopbjaaGreatDoor
namespace Rows

/-- THE TIED CARD OF 'tracelaw6.SysTells'. -/
def sysTellsCard : Claim7 := { stood := { row := sysTellsRow, standIns := [], harness := (true, "b5a75530737dbcb2dc1da4e1f108993e2874ec22310e539d800759f15b2058f0"), looks := false }, kinds := [], alts := [], laidByText := true, laidKinds := [.data, .pinned], laidTests := true, laidLooks := .later }
def SysTellsCardSaid : Prop := Claim7.holds Tryz.pinned (.plain (OpenSpec.ofChange sysTellsSpec)) sysTellsCard

/-- THE SECOND FORM's CARD OF 'tracelaw6.SysTells'. -/
def sysTellsUptoCard : Claim7 := { stood := { row := sysTellsUptoRow, standIns := [], harness := (true, "b5a75530737dbcb2dc1da4e1f108993e2874ec22310e539d800759f15b2058f0"), looks := false }, kinds := [], alts := [], laidByText := true, laidKinds := [.data, .pinned], laidTests := true, laidLooks := .later }
def SysTellsUptoCardSaid : Prop := Claim7.holds Tryz.pinned (.plain (OpenSpec.upto sysTellsSpec)) sysTellsUptoCard
end Rows
end Go.Proofs.YtjnkfelecopbjaaGreatDoor
