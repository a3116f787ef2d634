/-
  union.firstWith and Look; alive of chapter 4; the statements UnionSeen and UnionLook.
-/
import Derived.Test.YthfeoiffoeagkaaGreatDoorXA12
namespace Go.Proofs.YthfeoiffoeagkaaGreatDoor
open Go.RowKit PM Go.Sort
set_option linter.unusedVariables false
namespace PM
end PM
end Go.Proofs.YthfeoiffoeagkaaGreatDoor
namespace Go.Proofs.YthfeoiffoeagkaaGreatDoor
open Go.RowKit PM Go.Sort
set_option linter.unusedVariables false
namespace PM
end PM
theorem Ag {w W : World} {o o2 : Obj} (h : Below (w.heap.size + 2) ((w.alloc o).alloc o2) W) (a b c d : Value) : Below w.heap.size w ((((W.setCell ⟨w.heap.size + 1,0,none⟩ a).setCell ⟨w.heap.size + 1,1,none⟩ b).setCell ⟨w.heap.size + 1,2,none⟩ c).setCell ⟨w.heap.size + 1,3,none⟩ d) :=
 ((((fI h).setCell (p:=⟨w.heap.size + 1,0,none⟩) (by simp) _).setCell (p:=⟨w.heap.size + 1,1,none⟩) (by simp) _).setCell (p:=⟨w.heap.size + 1,2,none⟩) (by simp) _).setCell (p:=⟨w.heap.size + 1,3,none⟩) (by simp) _
end Go.Proofs.YthfeoiffoeagkaaGreatDoor
namespace Go.Proofs.YthfeoiffoeagkaaGreatDoor
open Go.RowKit PM Go.Sort
set_option linter.unusedVariables false
end Go.Proofs.YthfeoiffoeagkaaGreatDoor
namespace Go.Proofs.YthfeoiffoeagkaaGreatDoor
open Go.RowKit PM Go.Sort
set_option linter.unusedVariables false
abbrev iR (f : Nat) (args : Array Value) (W : World) : Prop:=Calls Tryz.prog f args W fun r w' => r = .returned (.bool true) ∧ Below W.heap.size W w'
end Go.Proofs.YthfeoiffoeagkaaGreatDoor
namespace Go.Proofs.YthfeoiffoeagkaaGreatDoor
open Go.RowKit PM Go.Sort
set_option linter.unusedVariables false
theorem union_right {ls : List (List Ent)} {t : List Ent} (hl : ls.length ≤ 5) (h : ay ls = (0,t)) : aA ls = (0,0) ∧ aD ls = t:=by
 have h1 : (ay ls).1 = 0:=by rw [h]
 have h0 : (aA ls).1 = 0:=dL.2 ⟨hl,h1,nC h1⟩
 refine ⟨?_,by rw [aD,if_pos h0,h]⟩
 unfold aA
 rw [if_neg (by omega),if_pos ((mg ls 0).2 (nC h1)),h1]
theorem mo (y : Lay) (lo : List Lay) (m : Int) (pl : Option Addr) (cl : Nat) (W : World) (hU : UnOK W y lo pl cl) (hm : W.cell? ⟨0,0,none⟩ = some (.int .i64 m)) :
  Calls Tryz.prog 21 #[.agg #[.slice y.ad y.es.length y.cap,.slice pl lo.length cl]] W (fB (aA (y.es :: lo.map (·.es))).1 (aD (y.es :: lo.map (·.es))) W) :=
 Ah W y.ad y.es.length y.cap pl lo.length cl _ _ _ (fun X hX => by
  have h:=hU.kept hX
  exact wm y lo m pl cl X h.lies h.all h.nil (held hX hm))
end Go.Proofs.YthfeoiffoeagkaaGreatDoor
namespace Go.Proofs.YthfeoiffoeagkaaGreatDoor
open Go.RowKit PM Go.Sort
set_option linter.unusedVariables false
end Go.Proofs.YthfeoiffoeagkaaGreatDoor
