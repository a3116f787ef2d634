/-
  The library's sort of an empty list that has no memory.
-/
import Derived.Test.YtampldoimpfjgabGreatDoorTSort
namespace Go.Proofs.YtampldoimpfjgabGreatDoor
open Go.RowKit PM Go.Sort
set_option linter.unusedVariables false

theorem insertion_nil (w : World) :
    Calls Tryz.prog 157 #[.slice none 0 0, .int .i64 0, .int .i64 0, .func (.func 75) #[] #[]] w fun e w' => e = .returned (.tuple #[]) ∧ w' = w := by
  go_enter Tryz.func157, Tryz.ntmps157
  go_wp2
  go_loopg [8] 1 (fun gg i wr => i = .int .i64 1 ∧ wr = w)
  case atStart => exact ⟨rfl, rfl⟩
  case round =>
    obtain ⟨rfl, rfl⟩ := hrel
    go_wp2
    go_end0
    exact ⟨rfl, rfl⟩
set_option maxHeartbeats 2000000 in
set_option maxRecDepth 100000 in
theorem pdq_nil (k : Int) (w : World) :
    Calls Tryz.prog 122 #[.slice none 0 0, .int .i64 0, .int .i64 0, .int .i64 k, .func (.func 75) #[] #[]] w fun e w' => e = .returned (.tuple #[]) ∧ w' = w := by
  have hi := insertion_nil
  go_enter Tryz.func122, Tryz.ntmps122
  go_wp2
  go_loopg [1, 2] 1 (fun gg a b wr => a = .int .i64 0 ∧ b = .int .i64 0 ∧ wr = w)
  case atStart => exact ⟨rfl, rfl, rfl⟩
  case round =>
    obtain ⟨rfl, rfl, rfl⟩ := hrel
    go_wp2_with (go_at_call 157; refine (hi _).mono ?_; rintro e w' ⟨rfl, hw⟩; subst hw)
    try simp only [Exit.inBlock, Exit.then]
    refine bodyPost_ret (results_none rfl _ _ _) rfl ?_
    exact ⟨rfl, rfl⟩
theorem sort_nil (w : World) :
    Calls Tryz.prog 91 #[.slice none 0 0, .func (.func 75) #[] #[]] w fun e w' => e = .returned (.tuple #[]) ∧ w' = w := by
  have hl : Calls Tryz.prog 123 #[.int .u64 0] w fun e w' => e = .returned (.int .i64 (Lib.bitLen 0 : Nat)) ∧ w' = w := by
    have h := Any.bits_Len (SlLaysF0.n15.bits Tryz.bitsE) 0 w (by omega) (by omega)
    exact h
  have hp := pdq_nil (Lib.bitLen 0 : Nat) w
  generalize ((Lib.bitLen 0 : Nat) : Int) = k at hl hp
  go_enter Tryz.func91, Tryz.ntmps91
  go_wp2_with (first | (go_at_call 123; refine hl.mono ?_; rintro e wx ⟨rfl, hwx⟩; subst wx) | (go_at_call 122; refine hp.mono ?_; rintro e w' ⟨rfl, hw⟩; subst hw))
  go_end0
  exact ⟨rfl, rfl⟩
end Go.Proofs.YtampldoimpfjgabGreatDoor
