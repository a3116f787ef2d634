/-
  The closed fact that the statements of chapter 2 ask first: 'alive' answers true.
-/
import Derived.Test.YtampldoimpfjgabGreatDoorTList
namespace Go.Proofs.YtampldoimpfjgabGreatDoor
open Go.RowKit PM Go.Sort
set_option linter.unusedVariables false

theorem perm_strict {l m : List Ent} (hp : l.Perm m) (hd : m.Pairwise fun a b => a.p ≠ b.p) (hs : l.Pairwise fun a b => ¬ cmp b.p a.p < 0) : Sorted l := by
  have hd' : l.Pairwise fun a b => a.p ≠ b.p := (hp.pairwise_iff (fun h => h.symm)).2 hd
  refine (hd'.and hs).imp ?_
  rintro a b ⟨h1, h2⟩
  exact cmp_ge h2 (fun e => h1 e.symm)
def smallT : List Ent := [⟨⟨#[97]⟩, 2, ⟨#[]⟩, false⟩, ⟨⟨#[97, 47, 98]⟩, 1, ⟨#[120]⟩, false⟩, ⟨⟨#[99]⟩, 3, ⟨#[97]⟩, false⟩]
def smallM : List Ent := [⟨⟨#[99]⟩, 3, ⟨#[97]⟩, false⟩, ⟨⟨#[100]⟩, 2, ⟨#[]⟩, false⟩, ⟨⟨#[100, 47, 98]⟩, 1, ⟨#[120]⟩, false⟩]
theorem smallT_right : Right false smallT := faultL_zero.1 (by decide)
theorem smallM_right : Right false smallM := faultL_zero.1 (by decide)
theorem small_pre : movedPre smallT ⟨#[97]⟩ ⟨#[100]⟩ = [⟨⟨#[100]⟩, 2, ⟨#[]⟩, false⟩, ⟨⟨#[100, 47, 98]⟩, 1, ⟨#[120]⟩, false⟩, ⟨⟨#[99]⟩, 3, ⟨#[97]⟩, false⟩] := by decide
theorem small_err : moveErr smallT ⟨#[97]⟩ ⟨#[100]⟩ = 0 := by decide
theorem small_rem : remErr smallT [97] = 11 := by decide
theorem small_list : listL smallM [100] = ([[98]], 0) := by decide
theorem small_fits : Fits smallT := by unfold Fits smallT maxLen; decide
theorem smallM_fits : Fits smallM := by unfold Fits smallM maxLen; decide
theorem small_moved {l : List Ent} (hp : l.Perm (movedPre smallT ⟨#[97]⟩ ⟨#[100]⟩)) (hs : l.Pairwise fun a b => ¬ cmp b.p a.p < 0) : l = smallM := by
  rw [small_pre] at hp
  refine sorted_ext (perm_strict hp (by decide) hs) smallM_right.sorted fun x => ?_
  rw [hp.mem_iff]
  simp [smallM]
  constructor
  · rintro (h | h | h) <;> simp [h]
  · rintro (h | h | h) <;> simp [h]
end Go.Proofs.YtampldoimpfjgabGreatDoor
