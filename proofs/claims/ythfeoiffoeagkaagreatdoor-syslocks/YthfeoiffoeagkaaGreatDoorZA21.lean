/-
  union.firstWith and Look; alive of chapter 4; the statements UnionSeen and UnionLook.
-/
import Derived.Test.YthfeoiffoeagkaaGreatDoorZA12
namespace Go.Proofs.YthfeoiffoeagkaaGreatDoor
open Go.RowKit PM Go.Sort
set_option linter.unusedVariables false
namespace PM
end PM
end Go.Proofs.YthfeoiffoeagkaaGreatDoor
namespace Go.Proofs.YthfeoiffoeagkaaGreatDoor
open Go.RowKit PM Go.Sort
set_option linter.unusedVariables false
namespace PM
end PM
theorem zL {w W:World} {o o2:Obj} (h:Below (w.heap.size+2) ((w.alloc o).alloc o2) W) (a b c d:Value):Below w.heap.size w ((((W.setCell ⟨w.heap.size+1,0,none⟩ a).setCell ⟨w.heap.size+1,1,none⟩ b).setCell ⟨w.heap.size+1,2,none⟩ c).setCell ⟨w.heap.size+1,3,none⟩ d) :=
 ((((gG h).setCell (p:=⟨w.heap.size+1,0,none⟩) (by simp) _).setCell (p:=⟨w.heap.size+1,1,none⟩) (by simp) _).setCell (p:=⟨w.heap.size+1,2,none⟩) (by simp) _).setCell (p:=⟨w.heap.size+1,3,none⟩) (by simp) _
end Go.Proofs.YthfeoiffoeagkaaGreatDoor
namespace Go.Proofs.YthfeoiffoeagkaaGreatDoor
open Go.RowKit PM Go.Sort
set_option linter.unusedVariables false
end Go.Proofs.YthfeoiffoeagkaaGreatDoor
namespace Go.Proofs.YthfeoiffoeagkaaGreatDoor
open Go.RowKit PM Go.Sort
set_option linter.unusedVariables false
abbrev sH (f:Nat) (args:Array Value) (W:World):Prop:=Calls Tryz.prog f args W fun r w'=>r=.returned (.bool true)∧Below W.heap.size W w'
end Go.Proofs.YthfeoiffoeagkaaGreatDoor
namespace Go.Proofs.YthfeoiffoeagkaaGreatDoor
open Go.RowKit PM Go.Sort
set_option linter.unusedVariables false
theorem union_right {ls:List (List Ent)} {t:List Ent} (hl:ls.length≤5) (h:au ls=(0,t)):ay ls=(0,0)∧aB ls=t:=by
 have h1:(au ls).1=0:=by rw [h]
 have h0:(ay ls).1=0:=eG.2 ⟨hl,h1,mV h1⟩
 refine ⟨?_,by rw [aB,if_pos h0,h]⟩
 unfold ay
 rw [if_neg (by omega),if_pos ((kS ls 0).2 (mV h1)),h1]
theorem qD (y:Lay) (lo:List Lay) (m:Int) (pl:Option Addr) (cl:Nat) (W:World) (hU:UnOK W y lo pl cl) (hm:W.cell? ⟨0,0,none⟩=some (.int .i64 m)) :
  Calls Tryz.prog 21 #[.agg #[.slice y.ad y.es.length y.cap,.slice pl lo.length cl]] W (eZ (ay (y.es::lo.map (·.es))).1 (aB (y.es::lo.map (·.es))) W) :=
 zQ W y.ad y.es.length y.cap pl lo.length cl _ _ _ (fun X hX=>by
  have h:=hU.kept hX
  exact vK y lo m pl cl X h.lies h.all h.nil (held hX hm))
end Go.Proofs.YthfeoiffoeagkaaGreatDoor
namespace Go.Proofs.YthfeoiffoeagkaaGreatDoor
open Go.RowKit PM Go.Sort
set_option linter.unusedVariables false
end Go.Proofs.YthfeoiffoeagkaaGreatDoor
