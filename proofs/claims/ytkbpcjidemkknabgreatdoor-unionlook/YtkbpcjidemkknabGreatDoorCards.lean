/-
  DERIVED. GIVEN WITH THE SEED: THE CARDS: each row of YtkbpcjidemkknabGreatDoorRows.lean that lists a variable, with what it lists TIED to the program's text (the seventh form; the later family's looks); each row that meets fmt, with fmt's text TOLD by the authors' own Lean function (tested against real Go, not proved from fmt's source: count such statements apart). THE CARD IS WHAT COUNTS. Prove the row's statement (the work); the ties are given (YtkbpcjidemkknabGreatDoorTie.lean); close each card by the builder's one call (the guide's Derived/Test/ToyasCard.lean, 'card_holds'). Laid BY PROGRAM, IN A SANDBOX (cutbox-door.mjs). By AI agents, Wed Nov 11 2026. No macro, syntax, notation, axiom, sorry.
-/
import Derived.Test.YtkbpcjidemkknabGreatDoorRows
import GoSem.ClaimSeven
namespace Go.Proofs.YtkbpcjidemkknabGreatDoor
namespace Rows

/-- THE TIED CARD OF 'tracelaw4.UnionSeen'. -/
def unionSeenCard : Claim7 := { stood := { row := unionSeenRow, standIns := [], harness := (true, "0e3d64dbd9c80c87a181d4947337920f5e897885e9eeb367ce8b779c85b9462b"), looks := false }, kinds := [], alts := [], laidByText := true, laidKinds := [.data, .pinned], laidTests := true, laidLooks := .later }
def UnionSeenCardSaid : Prop := Claim7.holds Tryz.pinned (.plain (OpenSpec.ofChange unionSeenSpec)) unionSeenCard

/-- THE TIED CARD OF 'tracelaw4.UnionLower'. -/
def unionLowerCard : Claim7 := { stood := { row := unionLowerRow, standIns := [], harness := (true, "0e3d64dbd9c80c87a181d4947337920f5e897885e9eeb367ce8b779c85b9462b"), looks := false }, kinds := [], alts := [], laidByText := true, laidKinds := [.data, .pinned], laidTests := true, laidLooks := .later }
def UnionLowerCardSaid : Prop := Claim7.holds Tryz.pinned (.plain (OpenSpec.ofChange unionLowerSpec)) unionLowerCard

/-- THE TIED CARD OF 'tracelaw4.UnionLook'. -/
def unionLookCard : Claim7 := { stood := { row := unionLookRow, standIns := [], harness := (true, "0e3d64dbd9c80c87a181d4947337920f5e897885e9eeb367ce8b779c85b9462b"), looks := false }, kinds := [], alts := [], laidByText := true, laidKinds := [.data, .pinned], laidTests := true, laidLooks := .later }
def UnionLookCardSaid : Prop := Claim7.holds Tryz.pinned (.plain (OpenSpec.ofChange unionLookSpec)) unionLookCard

/-- THE TIED CARD OF 'tracelaw4.UnionFlat'. -/
def unionFlatCard : Claim7 := { stood := { row := unionFlatRow, standIns := [], harness := (true, "0e3d64dbd9c80c87a181d4947337920f5e897885e9eeb367ce8b779c85b9462b"), looks := false }, kinds := [], alts := [], laidByText := true, laidKinds := [.data, .pinned], laidTests := true, laidLooks := .later }
def UnionFlatCardSaid : Prop := Claim7.holds Tryz.pinned (.plain (OpenSpec.ofChange unionFlatSpec)) unionFlatCard

/-- THE SECOND FORM's CARD OF 'tracelaw4.UnionSeen'. -/
def unionSeenUptoCard : Claim7 := { stood := { row := unionSeenUptoRow, standIns := [], harness := (true, "0e3d64dbd9c80c87a181d4947337920f5e897885e9eeb367ce8b779c85b9462b"), looks := false }, kinds := [], alts := [], laidByText := true, laidKinds := [.data, .pinned], laidTests := true, laidLooks := .later }
def UnionSeenUptoCardSaid : Prop := Claim7.holds Tryz.pinned (.plain (OpenSpec.upto unionSeenSpec)) unionSeenUptoCard

/-- THE SECOND FORM's CARD OF 'tracelaw4.UnionLower'. -/
def unionLowerUptoCard : Claim7 := { stood := { row := unionLowerUptoRow, standIns := [], harness := (true, "0e3d64dbd9c80c87a181d4947337920f5e897885e9eeb367ce8b779c85b9462b"), looks := false }, kinds := [], alts := [], laidByText := true, laidKinds := [.data, .pinned], laidTests := true, laidLooks := .later }
def UnionLowerUptoCardSaid : Prop := Claim7.holds Tryz.pinned (.plain (OpenSpec.upto unionLowerSpec)) unionLowerUptoCard

/-- THE SECOND FORM's CARD OF 'tracelaw4.UnionLook'. -/
def unionLookUptoCard : Claim7 := { stood := { row := unionLookUptoRow, standIns := [], harness := (true, "0e3d64dbd9c80c87a181d4947337920f5e897885e9eeb367ce8b779c85b9462b"), looks := false }, kinds := [], alts := [], laidByText := true, laidKinds := [.data, .pinned], laidTests := true, laidLooks := .later }
def UnionLookUptoCardSaid : Prop := Claim7.holds Tryz.pinned (.plain (OpenSpec.upto unionLookSpec)) unionLookUptoCard

/-- THE SECOND FORM's CARD OF 'tracelaw4.UnionFlat'. -/
def unionFlatUptoCard : Claim7 := { stood := { row := unionFlatUptoRow, standIns := [], harness := (true, "0e3d64dbd9c80c87a181d4947337920f5e897885e9eeb367ce8b779c85b9462b"), looks := false }, kinds := [], alts := [], laidByText := true, laidKinds := [.data, .pinned], laidTests := true, laidLooks := .later }
def UnionFlatUptoCardSaid : Prop := Claim7.holds Tryz.pinned (.plain (OpenSpec.upto unionFlatSpec)) unionFlatUptoCard
end Rows
end Go.Proofs.YtkbpcjidemkknabGreatDoor
