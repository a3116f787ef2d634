/-
  NARROWER THAN 'FOR EVERY INPUT', by the rows' own cells (each row's printed sentence says how): UnionSeen: laid · UnionLower: laid · UnionLook: laid · UnionFlat: laid · SysTells: laid · SysFlat: laid · SysLower: laid · SysRefused: laid.
  DERIVED. THE GIVEN ROWS OF THIS SEAT. 8 by the template 'for every input the law returns true; each argument reads behind the call as it read before'; 0 by the template 'total and deterministic' (their statements: YtampldoimpfjgabGreatDoorTotals.lean).
  GIVEN WITH THE SEED: the statements are not yours to turn. If you find one false, say at which input.
  Laid BY PROGRAM, IN A SANDBOX (cutbox-rows.mjs): the forced cells as the released guide's own fill.sh prints them over the translation 03465bff0ecaaa97… (all of the seat's roots in one cut). By AI agents, Wed Nov 11 2026. No macro, syntax, notation, axiom, sorry.
-/
import Derived.Test.YtampldoimpfjgabGreatDoorChecked
import GoSem.PinnedTables
import GoSem.Claim
import GoSem.ClaimJoined
import GoSem.ClaimMapViews
import Derived.JoinedTies
import Derived.KernelRfl
namespace Go.Proofs.YtampldoimpfjgabGreatDoor
/- THE CELL 'sum', in the pinned program and in every row, IS THE sha256 OF THE DUMP (.gsa) THAT YtampldoimpfjgabGreatDoorProg.lean LOADS. Nothing in Lean hashes anything: it is a label: what it is worth is what the hold of that sum in a sandbox is worth. -/
noncomputable def Tryz.pinned : Pinned := { name := "ytampldoimpfjgabgreatdoor", sum := "03465bff0ecaaa97cb9be9667e6bf37072e4bae3f634c7e3b3b2d46d9183e450", checked := Tryz.checked }
namespace Rows
def none {H : Type} : Left H := { results := [], args := [] }

/- WHAT THE LISTED PACKAGE-LEVEL VARIABLES READ AS WHEN THE CALL BEGINS. Each datum BY PROGRAM (the guide's laid-datum.mjs) off the statement by which the dump's own 'gosem.cut.vars' lays the variable. In a bare row this is a premise. The card (YtampldoimpfjgabGreatDoorCards.lean) ties it to the program's text. -/
def laid_unicode_utf8_acceptRanges {H : Type} : DataW H := .agg [.agg [.lit (.int .u8 128), .lit (.int .u8 191)], .agg [.lit (.int .u8 160), .lit (.int .u8 191)], .agg [.lit (.int .u8 128), .lit (.int .u8 159)], .agg [.lit (.int .u8 144), .lit (.int .u8 191)], .agg [.lit (.int .u8 128), .lit (.int .u8 143)], .agg [.lit (.int .u8 0), .lit (.int .u8 0)], .agg [.lit (.int .u8 0), .lit (.int .u8 0)], .agg [.lit (.int .u8 0), .lit (.int .u8 0)], .agg [.lit (.int .u8 0), .lit (.int .u8 0)], .agg [.lit (.int .u8 0), .lit (.int .u8 0)], .agg [.lit (.int .u8 0), .lit (.int .u8 0)], .agg [.lit (.int .u8 0), .lit (.int .u8 0)], .agg [.lit (.int .u8 0), .lit (.int .u8 0)], .agg [.lit (.int .u8 0), .lit (.int .u8 0)], .agg [.lit (.int .u8 0), .lit (.int .u8 0)], .agg [.lit (.int .u8 0), .lit (.int .u8 0)]]
/-- One of Go's own tables, pinned by name: the form's constant. -/
def laid_unicode_utf8_first : DataW Unit := Go.Pinned.utf8First

/-- 'tracelaw4.UnionSeen': WHATEVER THE INPUT: true; the input reads as it did. -/
def unionSeenSpec : ChangeSpec := { name := "unionSeen", fn := fun _ => fun
  | [d1, d2, d3, d4] => { results := [.lit (.bool true)], args := [d1, d2, d3, d4] }
  | _ => none }
def unionSeenRow : OpenClaim := { program := "ytampldoimpfjgabgreatdoor", sum := "03465bff0ecaaa97cb9be9667e6bf37072e4bae3f634c7e3b3b2d46d9183e450", func := "tracings/tracelaw4.UnionSeen", spec := "unionSeen", inPlace := ["internal/bytealg.CountString", "internal/bytealg.IndexByteString", "internal/bytealg.IndexString", "slices.overlaps[tracings/api.Entry]"], unfollowed := true, recurses := true, named := ["unicode/utf8.first", "unicode/utf8.acceptRanges", "internal/bytealg.MaxLen"], apart := false, laid := [("unicode/utf8.acceptRanges", laid_unicode_utf8_acceptRanges), ("unicode/utf8.first", laid_unicode_utf8_first)] }
def UnionSeenSaid : Prop := unionSeenRow.holds Tryz.pinned (OpenSpec.ofChange unionSeenSpec)

/-- ITS FALSE NEIGHBOUR: 'it returns false'. Refute it at one input. -/
def unionSeenWrong : ChangeSpec := { name := "unionSeen", fn := fun _ => fun
  | [d1, d2, d3, d4] => { results := [.lit (.bool false)], args := [d1, d2, d3, d4] }
  | _ => none }
def UnionSeenWrongFalsely : Prop := unionSeenRow.holds Tryz.pinned (OpenSpec.ofChange unionSeenWrong)

/-- 'tracelaw4.UnionLower': WHATEVER THE INPUT: true; the input reads as it did. -/
def unionLowerSpec : ChangeSpec := { name := "unionLower", fn := fun _ => fun
  | [d1, d2, d3, d4] => { results := [.lit (.bool true)], args := [d1, d2, d3, d4] }
  | _ => none }
def unionLowerRow : OpenClaim := { program := "ytampldoimpfjgabgreatdoor", sum := "03465bff0ecaaa97cb9be9667e6bf37072e4bae3f634c7e3b3b2d46d9183e450", func := "tracings/tracelaw4.UnionLower", spec := "unionLower", inPlace := ["internal/bytealg.CountString", "internal/bytealg.IndexByteString", "internal/bytealg.IndexString", "slices.overlaps[tracings/api.Entry]"], unfollowed := true, recurses := true, named := ["unicode/utf8.first", "unicode/utf8.acceptRanges", "internal/bytealg.MaxLen"], apart := false, laid := [("unicode/utf8.acceptRanges", laid_unicode_utf8_acceptRanges), ("unicode/utf8.first", laid_unicode_utf8_first)] }
def UnionLowerSaid : Prop := unionLowerRow.holds Tryz.pinned (OpenSpec.ofChange unionLowerSpec)

/-- ITS FALSE NEIGHBOUR: 'it returns false'. Refute it at one input. -/
def unionLowerWrong : ChangeSpec := { name := "unionLower", fn := fun _ => fun
  | [d1, d2, d3, d4] => { results := [.lit (.bool false)], args := [d1, d2, d3, d4] }
  | _ => none }
def UnionLowerWrongFalsely : Prop := unionLowerRow.holds Tryz.pinned (OpenSpec.ofChange unionLowerWrong)

/-- 'tracelaw4.UnionLook': WHATEVER THE INPUT: true; the input reads as it did. -/
def unionLookSpec : ChangeSpec := { name := "unionLook", fn := fun _ => fun
  | [d1, d2] => { results := [.lit (.bool true)], args := [d1, d2] }
  | _ => none }
def unionLookRow : OpenClaim := { program := "ytampldoimpfjgabgreatdoor", sum := "03465bff0ecaaa97cb9be9667e6bf37072e4bae3f634c7e3b3b2d46d9183e450", func := "tracings/tracelaw4.UnionLook", spec := "unionLook", inPlace := ["internal/bytealg.CountString", "internal/bytealg.IndexByteString", "internal/bytealg.IndexString", "slices.overlaps[tracings/api.Entry]"], unfollowed := true, recurses := true, named := ["unicode/utf8.first", "unicode/utf8.acceptRanges", "internal/bytealg.MaxLen"], apart := false, laid := [("unicode/utf8.acceptRanges", laid_unicode_utf8_acceptRanges), ("unicode/utf8.first", laid_unicode_utf8_first)] }
def UnionLookSaid : Prop := unionLookRow.holds Tryz.pinned (OpenSpec.ofChange unionLookSpec)

/-- ITS FALSE NEIGHBOUR: 'it returns false'. Refute it at one input. -/
def unionLookWrong : ChangeSpec := { name := "unionLook", fn := fun _ => fun
  | [d1, d2] => { results := [.lit (.bool false)], args := [d1, d2] }
  | _ => none }
def UnionLookWrongFalsely : Prop := unionLookRow.holds Tryz.pinned (OpenSpec.ofChange unionLookWrong)

/-- 'tracelaw4.UnionFlat': WHATEVER THE INPUT: true; the input reads as it did. -/
def unionFlatSpec : ChangeSpec := { name := "unionFlat", fn := fun _ => fun
  | [d1, d2, d3, d4] => { results := [.lit (.bool true)], args := [d1, d2, d3, d4] }
  | _ => none }
def unionFlatRow : OpenClaim := { program := "ytampldoimpfjgabgreatdoor", sum := "03465bff0ecaaa97cb9be9667e6bf37072e4bae3f634c7e3b3b2d46d9183e450", func := "tracings/tracelaw4.UnionFlat", spec := "unionFlat", inPlace := ["internal/bytealg.CountString", "internal/bytealg.IndexByteString", "internal/bytealg.IndexString", "slices.overlaps[tracings/api.Entry]"], unfollowed := true, recurses := true, named := ["unicode/utf8.first", "unicode/utf8.acceptRanges", "internal/bytealg.MaxLen"], apart := false, laid := [("unicode/utf8.acceptRanges", laid_unicode_utf8_acceptRanges), ("unicode/utf8.first", laid_unicode_utf8_first)] }
def UnionFlatSaid : Prop := unionFlatRow.holds Tryz.pinned (OpenSpec.ofChange unionFlatSpec)

/-- ITS FALSE NEIGHBOUR: 'it returns false'. Refute it at one input. -/
def unionFlatWrong : ChangeSpec := { name := "unionFlat", fn := fun _ => fun
  | [d1, d2, d3, d4] => { results := [.lit (.bool false)], args := [d1, d2, d3, d4] }
  | _ => none }
def UnionFlatWrongFalsely : Prop := unionFlatRow.holds Tryz.pinned (OpenSpec.ofChange unionFlatWrong)

/-- 'tracelaw6.SysTells': WHATEVER THE INPUT: true; the input reads as it did. -/
def sysTellsSpec : ChangeSpec := { name := "sysTells", fn := fun _ => fun
  | [d1, d2] => { results := [.lit (.bool true)], args := [d1, d2] }
  | _ => none }
def sysTellsRow : OpenClaim := { program := "ytampldoimpfjgabgreatdoor", sum := "03465bff0ecaaa97cb9be9667e6bf37072e4bae3f634c7e3b3b2d46d9183e450", func := "tracings/tracelaw6.SysTells", spec := "sysTells", inPlace := ["internal/bytealg.CountString", "internal/bytealg.IndexByteString", "internal/bytealg.IndexString", "slices.overlaps[tracings/api.Entry]", "internal/abi.NoEscape", "internal/bytealg.MakeNoZero"], unfollowed := true, recurses := true, named := ["unicode/utf8.first", "unicode/utf8.acceptRanges", "internal/bytealg.MaxLen"], apart := false, laid := [("unicode/utf8.acceptRanges", laid_unicode_utf8_acceptRanges), ("unicode/utf8.first", laid_unicode_utf8_first)] }
def SysTellsSaid : Prop := sysTellsRow.holds Tryz.pinned (OpenSpec.ofChange sysTellsSpec)

/-- ITS FALSE NEIGHBOUR: 'it returns false'. Refute it at one input. -/
def sysTellsWrong : ChangeSpec := { name := "sysTells", fn := fun _ => fun
  | [d1, d2] => { results := [.lit (.bool false)], args := [d1, d2] }
  | _ => none }
def SysTellsWrongFalsely : Prop := sysTellsRow.holds Tryz.pinned (OpenSpec.ofChange sysTellsWrong)

/-- 'tracelaw6.SysFlat': WHATEVER THE INPUT: true; the input reads as it did. -/
def sysFlatSpec : ChangeSpec := { name := "sysFlat", fn := fun _ => fun
  | [d1, d2] => { results := [.lit (.bool true)], args := [d1, d2] }
  | _ => none }
def sysFlatRow : OpenClaim := { program := "ytampldoimpfjgabgreatdoor", sum := "03465bff0ecaaa97cb9be9667e6bf37072e4bae3f634c7e3b3b2d46d9183e450", func := "tracings/tracelaw6.SysFlat", spec := "sysFlat", inPlace := ["internal/bytealg.CountString", "internal/bytealg.IndexByteString", "internal/bytealg.IndexString", "slices.overlaps[tracings/api.Entry]", "internal/abi.NoEscape", "internal/bytealg.MakeNoZero"], unfollowed := true, recurses := true, named := ["unicode/utf8.first", "unicode/utf8.acceptRanges", "internal/bytealg.MaxLen"], apart := false, laid := [("unicode/utf8.acceptRanges", laid_unicode_utf8_acceptRanges), ("unicode/utf8.first", laid_unicode_utf8_first)] }
def SysFlatSaid : Prop := sysFlatRow.holds Tryz.pinned (OpenSpec.ofChange sysFlatSpec)

/-- ITS FALSE NEIGHBOUR: 'it returns false'. Refute it at one input. -/
def sysFlatWrong : ChangeSpec := { name := "sysFlat", fn := fun _ => fun
  | [d1, d2] => { results := [.lit (.bool false)], args := [d1, d2] }
  | _ => none }
def SysFlatWrongFalsely : Prop := sysFlatRow.holds Tryz.pinned (OpenSpec.ofChange sysFlatWrong)

/-- 'tracelaw6.SysLower': WHATEVER THE INPUT: true; the input reads as it did. -/
def sysLowerSpec : ChangeSpec := { name := "sysLower", fn := fun _ => fun
  | [d1, d2] => { results := [.lit (.bool true)], args := [d1, d2] }
  | _ => none }
def sysLowerRow : OpenClaim := { program := "ytampldoimpfjgabgreatdoor", sum := "03465bff0ecaaa97cb9be9667e6bf37072e4bae3f634c7e3b3b2d46d9183e450", func := "tracings/tracelaw6.SysLower", spec := "sysLower", inPlace := ["internal/bytealg.CountString", "internal/bytealg.IndexByteString", "internal/bytealg.IndexString", "slices.overlaps[tracings/api.Entry]", "internal/abi.NoEscape", "internal/bytealg.MakeNoZero"], unfollowed := true, recurses := true, named := ["unicode/utf8.first", "unicode/utf8.acceptRanges", "internal/bytealg.MaxLen"], apart := false, laid := [("unicode/utf8.acceptRanges", laid_unicode_utf8_acceptRanges), ("unicode/utf8.first", laid_unicode_utf8_first)] }
def SysLowerSaid : Prop := sysLowerRow.holds Tryz.pinned (OpenSpec.ofChange sysLowerSpec)

/-- ITS FALSE NEIGHBOUR: 'it returns false'. Refute it at one input. -/
def sysLowerWrong : ChangeSpec := { name := "sysLower", fn := fun _ => fun
  | [d1, d2] => { results := [.lit (.bool false)], args := [d1, d2] }
  | _ => none }
def SysLowerWrongFalsely : Prop := sysLowerRow.holds Tryz.pinned (OpenSpec.ofChange sysLowerWrong)

/-- 'tracelaw6.SysRefused': WHATEVER THE INPUT: true; the input reads as it did. -/
def sysRefusedSpec : ChangeSpec := { name := "sysRefused", fn := fun _ => fun
  | [d1, d2] => { results := [.lit (.bool true)], args := [d1, d2] }
  | _ => none }
def sysRefusedRow : OpenClaim := { program := "ytampldoimpfjgabgreatdoor", sum := "03465bff0ecaaa97cb9be9667e6bf37072e4bae3f634c7e3b3b2d46d9183e450", func := "tracings/tracelaw6.SysRefused", spec := "sysRefused", inPlace := ["internal/bytealg.CountString", "internal/bytealg.IndexByteString", "internal/bytealg.IndexString", "slices.overlaps[tracings/api.Entry]", "internal/abi.NoEscape", "internal/bytealg.MakeNoZero"], unfollowed := true, recurses := true, named := ["unicode/utf8.first", "unicode/utf8.acceptRanges", "internal/bytealg.MaxLen"], apart := false, laid := [("unicode/utf8.acceptRanges", laid_unicode_utf8_acceptRanges), ("unicode/utf8.first", laid_unicode_utf8_first)] }
def SysRefusedSaid : Prop := sysRefusedRow.holds Tryz.pinned (OpenSpec.ofChange sysRefusedSpec)

/-- ITS FALSE NEIGHBOUR: 'it returns false'. Refute it at one input. -/
def sysRefusedWrong : ChangeSpec := { name := "sysRefused", fn := fun _ => fun
  | [d1, d2] => { results := [.lit (.bool false)], args := [d1, d2] }
  | _ => none }
def SysRefusedWrongFalsely : Prop := sysRefusedRow.holds Tryz.pinned (OpenSpec.ofChange sysRefusedWrong)

/- THE SECOND FORM. 'bulk': how many values and letters a reading holds, each counted each time it is reached (what is shared counts as often as it is met; a slice's spare places count too). A statement '..UptoSaid' is the law's where the arguments, and the package variables that the reading takes, are together of bulk at most 1048576: NARROWER than '..Said'. Prove '..Said' where nothing that the law and all that it calls make is longer than what came in: it says more and counts as full. Else prove '..UptoSaid'. A law counts once. -/
mutual
def uptoBulk {H : Type} : DataW H → Nat
  | .lit (.string bytes) => bytes.length + 1
  | .lit _ => 1
  | .nil => 1
  | .ptr d => uptoBulk d + 1
  | .slice elems spare => uptoBulkAll elems + uptoBulkAll spare + 1
  | .agg parts => uptoBulkAll parts + 1
  | .iface _ d => uptoBulk d + 1
  | .map entries => uptoBulkEntries entries + 1
  | .held _ => 1
def uptoBulkAll {H : Type} : List (DataW H) → Nat
  | [] => 0
  | d :: r => uptoBulk d + uptoBulkAll r
def uptoBulkEntries {H : Type} : List (Lit × DataW H) → Nat
  | [] => 0
  | x :: r => uptoBulkEntry x + uptoBulkEntries r
def uptoBulkEntry {H : Type} : Lit × DataW H → Nat
  | (.string bytes, d) => bytes.length + uptoBulk d + 1
  | (_, d) => uptoBulk d + 1
 end
def uptoSmall : (H : Type) → List (DataW H) → Bool := fun _ ds => decide (uptoBulkAll ds ≤ 1048576)
def OpenSpec.upto (s : _root_.Go.ChangeSpec) : _root_.Go.OpenSpec := { _root_.Go.OpenSpec.ofChange s with cond := some uptoSmall }

/-- 'tracelaw4.UnionSeen', WHERE WHAT IT READS IS OF BULK AT MOST 1048576: true; the input reads as it did. -/
def unionSeenUptoRow : OpenClaim := { program := "ytampldoimpfjgabgreatdoor", sum := "03465bff0ecaaa97cb9be9667e6bf37072e4bae3f634c7e3b3b2d46d9183e450", func := "tracings/tracelaw4.UnionSeen", spec := "unionSeen", inPlace := ["internal/bytealg.CountString", "internal/bytealg.IndexByteString", "internal/bytealg.IndexString", "slices.overlaps[tracings/api.Entry]"], unfollowed := true, recurses := true, named := ["unicode/utf8.first", "unicode/utf8.acceptRanges", "internal/bytealg.MaxLen"], apart := false, laid := [("unicode/utf8.acceptRanges", laid_unicode_utf8_acceptRanges), ("unicode/utf8.first", laid_unicode_utf8_first)], narrowed := true }
def UnionSeenUptoSaid : Prop := unionSeenUptoRow.holds Tryz.pinned (OpenSpec.upto unionSeenSpec)

/-- 'tracelaw4.UnionLower', WHERE WHAT IT READS IS OF BULK AT MOST 1048576: true; the input reads as it did. -/
def unionLowerUptoRow : OpenClaim := { program := "ytampldoimpfjgabgreatdoor", sum := "03465bff0ecaaa97cb9be9667e6bf37072e4bae3f634c7e3b3b2d46d9183e450", func := "tracings/tracelaw4.UnionLower", spec := "unionLower", inPlace := ["internal/bytealg.CountString", "internal/bytealg.IndexByteString", "internal/bytealg.IndexString", "slices.overlaps[tracings/api.Entry]"], unfollowed := true, recurses := true, named := ["unicode/utf8.first", "unicode/utf8.acceptRanges", "internal/bytealg.MaxLen"], apart := false, laid := [("unicode/utf8.acceptRanges", laid_unicode_utf8_acceptRanges), ("unicode/utf8.first", laid_unicode_utf8_first)], narrowed := true }
def UnionLowerUptoSaid : Prop := unionLowerUptoRow.holds Tryz.pinned (OpenSpec.upto unionLowerSpec)

/-- 'tracelaw4.UnionLook', WHERE WHAT IT READS IS OF BULK AT MOST 1048576: true; the input reads as it did. -/
def unionLookUptoRow : OpenClaim := { program := "ytampldoimpfjgabgreatdoor", sum := "03465bff0ecaaa97cb9be9667e6bf37072e4bae3f634c7e3b3b2d46d9183e450", func := "tracings/tracelaw4.UnionLook", spec := "unionLook", inPlace := ["internal/bytealg.CountString", "internal/bytealg.IndexByteString", "internal/bytealg.IndexString", "slices.overlaps[tracings/api.Entry]"], unfollowed := true, recurses := true, named := ["unicode/utf8.first", "unicode/utf8.acceptRanges", "internal/bytealg.MaxLen"], apart := false, laid := [("unicode/utf8.acceptRanges", laid_unicode_utf8_acceptRanges), ("unicode/utf8.first", laid_unicode_utf8_first)], narrowed := true }
def UnionLookUptoSaid : Prop := unionLookUptoRow.holds Tryz.pinned (OpenSpec.upto unionLookSpec)

/-- 'tracelaw4.UnionFlat', WHERE WHAT IT READS IS OF BULK AT MOST 1048576: true; the input reads as it did. -/
def unionFlatUptoRow : OpenClaim := { program := "ytampldoimpfjgabgreatdoor", sum := "03465bff0ecaaa97cb9be9667e6bf37072e4bae3f634c7e3b3b2d46d9183e450", func := "tracings/tracelaw4.UnionFlat", spec := "unionFlat", inPlace := ["internal/bytealg.CountString", "internal/bytealg.IndexByteString", "internal/bytealg.IndexString", "slices.overlaps[tracings/api.Entry]"], unfollowed := true, recurses := true, named := ["unicode/utf8.first", "unicode/utf8.acceptRanges", "internal/bytealg.MaxLen"], apart := false, laid := [("unicode/utf8.acceptRanges", laid_unicode_utf8_acceptRanges), ("unicode/utf8.first", laid_unicode_utf8_first)], narrowed := true }
def UnionFlatUptoSaid : Prop := unionFlatUptoRow.holds Tryz.pinned (OpenSpec.upto unionFlatSpec)

/-- 'tracelaw6.SysTells', WHERE WHAT IT READS IS OF BULK AT MOST 1048576: true; the input reads as it did. -/
def sysTellsUptoRow : OpenClaim := { program := "ytampldoimpfjgabgreatdoor", sum := "03465bff0ecaaa97cb9be9667e6bf37072e4bae3f634c7e3b3b2d46d9183e450", func := "tracings/tracelaw6.SysTells", spec := "sysTells", inPlace := ["internal/bytealg.CountString", "internal/bytealg.IndexByteString", "internal/bytealg.IndexString", "slices.overlaps[tracings/api.Entry]", "internal/abi.NoEscape", "internal/bytealg.MakeNoZero"], unfollowed := true, recurses := true, named := ["unicode/utf8.first", "unicode/utf8.acceptRanges", "internal/bytealg.MaxLen"], apart := false, laid := [("unicode/utf8.acceptRanges", laid_unicode_utf8_acceptRanges), ("unicode/utf8.first", laid_unicode_utf8_first)], narrowed := true }
def SysTellsUptoSaid : Prop := sysTellsUptoRow.holds Tryz.pinned (OpenSpec.upto sysTellsSpec)

/-- 'tracelaw6.SysFlat', WHERE WHAT IT READS IS OF BULK AT MOST 1048576: true; the input reads as it did. -/
def sysFlatUptoRow : OpenClaim := { program := "ytampldoimpfjgabgreatdoor", sum := "03465bff0ecaaa97cb9be9667e6bf37072e4bae3f634c7e3b3b2d46d9183e450", func := "tracings/tracelaw6.SysFlat", spec := "sysFlat", inPlace := ["internal/bytealg.CountString", "internal/bytealg.IndexByteString", "internal/bytealg.IndexString", "slices.overlaps[tracings/api.Entry]", "internal/abi.NoEscape", "internal/bytealg.MakeNoZero"], unfollowed := true, recurses := true, named := ["unicode/utf8.first", "unicode/utf8.acceptRanges", "internal/bytealg.MaxLen"], apart := false, laid := [("unicode/utf8.acceptRanges", laid_unicode_utf8_acceptRanges), ("unicode/utf8.first", laid_unicode_utf8_first)], narrowed := true }
def SysFlatUptoSaid : Prop := sysFlatUptoRow.holds Tryz.pinned (OpenSpec.upto sysFlatSpec)

/-- 'tracelaw6.SysLower', WHERE WHAT IT READS IS OF BULK AT MOST 1048576: true; the input reads as it did. -/
def sysLowerUptoRow : OpenClaim := { program := "ytampldoimpfjgabgreatdoor", sum := "03465bff0ecaaa97cb9be9667e6bf37072e4bae3f634c7e3b3b2d46d9183e450", func := "tracings/tracelaw6.SysLower", spec := "sysLower", inPlace := ["internal/bytealg.CountString", "internal/bytealg.IndexByteString", "internal/bytealg.IndexString", "slices.overlaps[tracings/api.Entry]", "internal/abi.NoEscape", "internal/bytealg.MakeNoZero"], unfollowed := true, recurses := true, named := ["unicode/utf8.first", "unicode/utf8.acceptRanges", "internal/bytealg.MaxLen"], apart := false, laid := [("unicode/utf8.acceptRanges", laid_unicode_utf8_acceptRanges), ("unicode/utf8.first", laid_unicode_utf8_first)], narrowed := true }
def SysLowerUptoSaid : Prop := sysLowerUptoRow.holds Tryz.pinned (OpenSpec.upto sysLowerSpec)

/-- 'tracelaw6.SysRefused', WHERE WHAT IT READS IS OF BULK AT MOST 1048576: true; the input reads as it did. -/
def sysRefusedUptoRow : OpenClaim := { program := "ytampldoimpfjgabgreatdoor", sum := "03465bff0ecaaa97cb9be9667e6bf37072e4bae3f634c7e3b3b2d46d9183e450", func := "tracings/tracelaw6.SysRefused", spec := "sysRefused", inPlace := ["internal/bytealg.CountString", "internal/bytealg.IndexByteString", "internal/bytealg.IndexString", "slices.overlaps[tracings/api.Entry]", "internal/abi.NoEscape", "internal/bytealg.MakeNoZero"], unfollowed := true, recurses := true, named := ["unicode/utf8.first", "unicode/utf8.acceptRanges", "internal/bytealg.MaxLen"], apart := false, laid := [("unicode/utf8.acceptRanges", laid_unicode_utf8_acceptRanges), ("unicode/utf8.first", laid_unicode_utf8_first)], narrowed := true }
def SysRefusedUptoSaid : Prop := sysRefusedUptoRow.holds Tryz.pinned (OpenSpec.upto sysRefusedSpec)

end Rows
end Go.Proofs.YtampldoimpfjgabGreatDoor
