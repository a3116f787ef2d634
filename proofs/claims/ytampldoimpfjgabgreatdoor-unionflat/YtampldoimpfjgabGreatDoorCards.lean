/-
  DERIVED. GIVEN WITH THE SEED: THE CARDS: each row of YtampldoimpfjgabGreatDoorRows.lean that lists a variable, with what it lists TIED to the program's text (the seventh form; the later family's looks); each row that meets fmt, with fmt's text TOLD by the authors' own Lean function (tested against real Go, not proved from fmt's source: count such statements apart). THE CARD IS WHAT COUNTS. Prove the row's statement (the work); the ties are given (YtampldoimpfjgabGreatDoorTie.lean); close each card by the builder's one call (the guide's Derived/Test/ToyasCard.lean, 'card_holds'). Laid BY PROGRAM, IN A SANDBOX (cutbox-door.mjs). By AI agents, Wed Nov 11 2026. No macro, syntax, notation, axiom, sorry.
-/
import Derived.Test.YtampldoimpfjgabGreatDoorRows
import GoSem.ClaimSeven
namespace Go.Proofs.YtampldoimpfjgabGreatDoor
namespace Rows

/-- THE TIED CARD OF 'tracelaw4.UnionSeen'. -/
def unionSeenCard : Claim7 := { stood := { row := unionSeenRow, standIns := [], harness := (true, "8f98cb00413759e7881f96d3fce8999eff8da35b8b1c5a9697cc802ddcf1c6b0"), looks := false }, kinds := [], alts := [], laidByText := true, laidKinds := [.data, .pinned], laidTests := true, laidLooks := .later }
def UnionSeenCardSaid : Prop := Claim7.holds Tryz.pinned (.plain (OpenSpec.ofChange unionSeenSpec)) unionSeenCard

/-- THE TIED CARD OF 'tracelaw4.UnionLower'. -/
def unionLowerCard : Claim7 := { stood := { row := unionLowerRow, standIns := [], harness := (true, "8f98cb00413759e7881f96d3fce8999eff8da35b8b1c5a9697cc802ddcf1c6b0"), looks := false }, kinds := [], alts := [], laidByText := true, laidKinds := [.data, .pinned], laidTests := true, laidLooks := .later }
def UnionLowerCardSaid : Prop := Claim7.holds Tryz.pinned (.plain (OpenSpec.ofChange unionLowerSpec)) unionLowerCard

/-- THE TIED CARD OF 'tracelaw4.UnionLook'. -/
def unionLookCard : Claim7 := { stood := { row := unionLookRow, standIns := [], harness := (true, "8f98cb00413759e7881f96d3fce8999eff8da35b8b1c5a9697cc802ddcf1c6b0"), looks := false }, kinds := [], alts := [], laidByText := true, laidKinds := [.data, .pinned], laidTests := true, laidLooks := .later }
def UnionLookCardSaid : Prop := Claim7.holds Tryz.pinned (.plain (OpenSpec.ofChange unionLookSpec)) unionLookCard

/-- THE TIED CARD OF 'tracelaw4.UnionFlat'. -/
def unionFlatCard : Claim7 := { stood := { row := unionFlatRow, standIns := [], harness := (true, "8f98cb00413759e7881f96d3fce8999eff8da35b8b1c5a9697cc802ddcf1c6b0"), looks := false }, kinds := [], alts := [], laidByText := true, laidKinds := [.data, .pinned], laidTests := true, laidLooks := .later }
def UnionFlatCardSaid : Prop := Claim7.holds Tryz.pinned (.plain (OpenSpec.ofChange unionFlatSpec)) unionFlatCard

/-- THE TIED CARD OF 'tracelaw6.SysTells'. -/
def sysTellsCard : Claim7 := { stood := { row := sysTellsRow, standIns := [], harness := (true, "8f98cb00413759e7881f96d3fce8999eff8da35b8b1c5a9697cc802ddcf1c6b0"), looks := false }, kinds := [], alts := [], laidByText := true, laidKinds := [.data, .pinned], laidTests := true, laidLooks := .later }
def SysTellsCardSaid : Prop := Claim7.holds Tryz.pinned (.plain (OpenSpec.ofChange sysTellsSpec)) sysTellsCard

/-- THE TIED CARD OF 'tracelaw6.SysFlat'. -/
def sysFlatCard : Claim7 := { stood := { row := sysFlatRow, standIns := [], harness := (true, "8f98cb00413759e7881f96d3fce8999eff8da35b8b1c5a9697cc802ddcf1c6b0"), looks := false }, kinds := [], alts := [], laidByText := true, laidKinds := [.data, .pinned], laidTests := true, laidLooks := .later }
def SysFlatCardSaid : Prop := Claim7.holds Tryz.pinned (.plain (OpenSpec.ofChange sysFlatSpec)) sysFlatCard

/-- THE TIED CARD OF 'tracelaw6.SysLower'. -/
def sysLowerCard : Claim7 := { stood := { row := sysLowerRow, standIns := [], harness := (true, "8f98cb00413759e7881f96d3fce8999eff8da35b8b1c5a9697cc802ddcf1c6b0"), looks := false }, kinds := [], alts := [], laidByText := true, laidKinds := [.data, .pinned], laidTests := true, laidLooks := .later }
def SysLowerCardSaid : Prop := Claim7.holds Tryz.pinned (.plain (OpenSpec.ofChange sysLowerSpec)) sysLowerCard

/-- THE TIED CARD OF 'tracelaw6.SysRefused'. -/
def sysRefusedCard : Claim7 := { stood := { row := sysRefusedRow, standIns := [], harness := (true, "8f98cb00413759e7881f96d3fce8999eff8da35b8b1c5a9697cc802ddcf1c6b0"), looks := false }, kinds := [], alts := [], laidByText := true, laidKinds := [.data, .pinned], laidTests := true, laidLooks := .later }
def SysRefusedCardSaid : Prop := Claim7.holds Tryz.pinned (.plain (OpenSpec.ofChange sysRefusedSpec)) sysRefusedCard

/-- THE SECOND FORM's CARD OF 'tracelaw4.UnionSeen'. -/
def unionSeenUptoCard : Claim7 := { stood := { row := unionSeenUptoRow, standIns := [], harness := (true, "8f98cb00413759e7881f96d3fce8999eff8da35b8b1c5a9697cc802ddcf1c6b0"), looks := false }, kinds := [], alts := [], laidByText := true, laidKinds := [.data, .pinned], laidTests := true, laidLooks := .later }
def UnionSeenUptoCardSaid : Prop := Claim7.holds Tryz.pinned (.plain (OpenSpec.upto unionSeenSpec)) unionSeenUptoCard

/-- THE SECOND FORM's CARD OF 'tracelaw4.UnionLower'. -/
def unionLowerUptoCard : Claim7 := { stood := { row := unionLowerUptoRow, standIns := [], harness := (true, "8f98cb00413759e7881f96d3fce8999eff8da35b8b1c5a9697cc802ddcf1c6b0"), looks := false }, kinds := [], alts := [], laidByText := true, laidKinds := [.data, .pinned], laidTests := true, laidLooks := .later }
def UnionLowerUptoCardSaid : Prop := Claim7.holds Tryz.pinned (.plain (OpenSpec.upto unionLowerSpec)) unionLowerUptoCard

/-- THE SECOND FORM's CARD OF 'tracelaw4.UnionLook'. -/
def unionLookUptoCard : Claim7 := { stood := { row := unionLookUptoRow, standIns := [], harness := (true, "8f98cb00413759e7881f96d3fce8999eff8da35b8b1c5a9697cc802ddcf1c6b0"), looks := false }, kinds := [], alts := [], laidByText := true, laidKinds := [.data, .pinned], laidTests := true, laidLooks := .later }
def UnionLookUptoCardSaid : Prop := Claim7.holds Tryz.pinned (.plain (OpenSpec.upto unionLookSpec)) unionLookUptoCard

/-- THE SECOND FORM's CARD OF 'tracelaw4.UnionFlat'. -/
def unionFlatUptoCard : Claim7 := { stood := { row := unionFlatUptoRow, standIns := [], harness := (true, "8f98cb00413759e7881f96d3fce8999eff8da35b8b1c5a9697cc802ddcf1c6b0"), looks := false }, kinds := [], alts := [], laidByText := true, laidKinds := [.data, .pinned], laidTests := true, laidLooks := .later }
def UnionFlatUptoCardSaid : Prop := Claim7.holds Tryz.pinned (.plain (OpenSpec.upto unionFlatSpec)) unionFlatUptoCard

/-- THE SECOND FORM's CARD OF 'tracelaw6.SysTells'. -/
def sysTellsUptoCard : Claim7 := { stood := { row := sysTellsUptoRow, standIns := [], harness := (true, "8f98cb00413759e7881f96d3fce8999eff8da35b8b1c5a9697cc802ddcf1c6b0"), looks := false }, kinds := [], alts := [], laidByText := true, laidKinds := [.data, .pinned], laidTests := true, laidLooks := .later }
def SysTellsUptoCardSaid : Prop := Claim7.holds Tryz.pinned (.plain (OpenSpec.upto sysTellsSpec)) sysTellsUptoCard

/-- THE SECOND FORM's CARD OF 'tracelaw6.SysFlat'. -/
def sysFlatUptoCard : Claim7 := { stood := { row := sysFlatUptoRow, standIns := [], harness := (true, "8f98cb00413759e7881f96d3fce8999eff8da35b8b1c5a9697cc802ddcf1c6b0"), looks := false }, kinds := [], alts := [], laidByText := true, laidKinds := [.data, .pinned], laidTests := true, laidLooks := .later }
def SysFlatUptoCardSaid : Prop := Claim7.holds Tryz.pinned (.plain (OpenSpec.upto sysFlatSpec)) sysFlatUptoCard

/-- THE SECOND FORM's CARD OF 'tracelaw6.SysLower'. -/
def sysLowerUptoCard : Claim7 := { stood := { row := sysLowerUptoRow, standIns := [], harness := (true, "8f98cb00413759e7881f96d3fce8999eff8da35b8b1c5a9697cc802ddcf1c6b0"), looks := false }, kinds := [], alts := [], laidByText := true, laidKinds := [.data, .pinned], laidTests := true, laidLooks := .later }
def SysLowerUptoCardSaid : Prop := Claim7.holds Tryz.pinned (.plain (OpenSpec.upto sysLowerSpec)) sysLowerUptoCard

/-- THE SECOND FORM's CARD OF 'tracelaw6.SysRefused'. -/
def sysRefusedUptoCard : Claim7 := { stood := { row := sysRefusedUptoRow, standIns := [], harness := (true, "8f98cb00413759e7881f96d3fce8999eff8da35b8b1c5a9697cc802ddcf1c6b0"), looks := false }, kinds := [], alts := [], laidByText := true, laidKinds := [.data, .pinned], laidTests := true, laidLooks := .later }
def SysRefusedUptoCardSaid : Prop := Claim7.holds Tryz.pinned (.plain (OpenSpec.upto sysRefusedSpec)) sysRefusedUptoCard
end Rows
end Go.Proofs.YtampldoimpfjgabGreatDoor
