/-
  What is left out without a change.
-/
import Derived.Test.YthfeoiffoeagkaaGreatDoorZA40
namespace Go.Proofs.YthfeoiffoeagkaaGreatDoor
open Go.RowKit PM Go.Sort
set_option linter.unusedVariables false
namespace PM
theorem LY (s:Sy) (ow k:Nat) (ck cn cm:Int) (cx:ByteArray) (ca:Bool) (j:Nat) (op:Opn) (f:Fl):(s.onR ow k ck cn cm cx ca j op f).2.2.err=0:=by
 unfold Sy.onR
 repeat' split
 all_goals rfl
theorem LW (s:Sy) (ow:Nat) (ck cf cn cm:Int) (cx:ByteArray) (ca:Bool):(s.numR ow ck cf cn cm cx ca).2.2.err=0:=by
 unfold Sy.numR
 split
 ·rfl
 ·split
  ·rfl
  ·split
   ·rfl
   ·split
    ·rfl
    ·exact LY _ _ _ _ _ _ _ _ _ _ _
theorem LU (s:Sy) (c:Cl):(s.eY c).2.2.err=0:=by
 unfold Sy.eY
 repeat' split
 all_goals first | rfl | exact LW _ _ _ _ _ _ _ _
theorem K4 (s:Sy) (c:Cl) (h:¬ (s.answer c).2.err=0):(s.answer c).1=s:=by
 unfold Sy.answer at h ⊢
 split
 ·rename_i h0
  rw [if_pos h0] at h
  exact absurd (LU s c) h
 ·rfl
theorem Li (s:Sy) (c:Cl) (h:c.kind=11∨c.kind=12):(s.answer c).1=s:=by
 have hs:(s.eY c).2.1=s:=by
  unfold Sy.eY
  repeat' split
  all_goals first | rfl | (exfalso;omega)
 unfold Sy.answer
 split
 ·exact hs
 ·rfl
theorem Ky (p:Cl × An→Bool) (hp:∀ (s:Sy) (c:Cl),p (c,(s.answer c).2)=false→(s.answer c).1=s):∀ (l:List Cl) (s:Sy),s.run (((l.zip (s.run l).2).filter p).map (·.1))=((s.run l).1,((l.zip (s.run l).2).filter p).map (·.2))
 | [],s=>rfl
 | c::l,s=>by
  have ih:=Ky p hp l (s.answer c).1
  rw [Sy.run]
  simp only [List.zip_cons_cons]
  cases h:p (c,(s.answer c).2) with
  | true =>
   rw [List.filter_cons_of_pos (by simpa using h),List.map_cons,List.map_cons,Sy.run]
   simp only
   rw [ih]
  | false =>
   rw [List.filter_cons_of_neg (by simp [h])]
   have:=hp s c h
   rw [this] at ih ⊢
   exact ih
end PM
end Go.Proofs.YthfeoiffoeagkaaGreatDoor
