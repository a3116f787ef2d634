/-
  Two showings that are the same.
-/
import Derived.Test.YthfeoiffoeagkaaGreatDoorZA35
import Derived.Test.YthfeoiffoeagkaaGreatDoorZA51
namespace Go.Proofs.YthfeoiffoeagkaaGreatDoor
open Go.RowKit PM Go.Sort
set_option linter.unusedVariables false
set_option maxRecDepth 100000 in
theorem Kh (es:List Ent) (els:List (List Ent)) (tr:List Ent) (op:Int) (a a':Option Addr) (c c':Nat) (ls ls':List Lay) (pl pl':Option Addr) (cl cl':Nat) (ps ps':Option Addr) (sc sc':Nat) (n1 n2 n2' n3:Nat) (e1:n1=es.length) (e2:n2=ls.length) (e2':n2'=ls'.length) (e3:n3=tr.length) (w:World) (hL:Lies w a es) (hL':Lies w a' es) (h80:es.length<4611686018427387904) (hT:dw w pl ls) (hT':dw w pl' ls') (hO:∀ x∈ls,fQ w x) (hO':∀ x∈ls',fQ w x) (h1:ls.map (·.es)=els) (h2:ls'.map (·.es)=els) (hn:els.length≤80) (hS:Lies w ps tr) (hS':Lies w ps' tr) (ht:tr.length<4611686018427387904) :
  sH 18 #[.agg #[.slice a n1 c,.slice pl n2 cl,.slice ps n3 sc,.int .i64 op],.agg #[.slice a' n1 c',.slice pl' n2' cl',.slice ps' n3 sc',.int .i64 op]] w:=by
 obtain ⟨X,hX⟩:∃ X,(w.alloc (.cells #[.slice a n1 c,.slice pl n2 cl,.slice ps n3 sc,.int .i64 op] 29)).alloc (.cells #[.slice a' n1 c',.slice pl' n2' cl',.slice ps' n3 sc',.int .i64 op] 29)=X:=⟨_,rfl⟩
 have hBX:Below w.heap.size w X:=by rw [← hX];exact ((Below.refl _ _).alloc (Nat.le_refl _) _).alloc (by simp) _
 have hsu:=Kt es els a a' c c' ls ls' pl pl' cl cl' X (hL.kept hBX) (hL'.kept hBX) h80 (hT.kept hBX) (hT'.kept hBX) (fun x hx=>(hO x hx).kept hBX) (fun x hx=>(hO' x hx).kept hBX) h1 h2 hn
 have hsa:=fun Y (hY:Below w.heap.size w Y)=>Kc tr ps ps' sc sc' Y (hS.kept hY) (hS'.kept hY) ht
 rw [← e1,← e2,← e2'] at hsu
 rw [← e3] at hsa
 obtain ⟨⟨b0,b1,b2,b3⟩,_⟩:=bK (iI hX)
 obtain ⟨⟨d0,d1,d2,d3⟩,_⟩:=bK (dY hX)
 have hsX:X.heap.size=w.heap.size+2:=by rw [← hX];simp
 have l0:w.heap.size<X.heap.size:=by omega
 have l1:w.heap.size+1<X.heap.size:=by omega
 clear hsX
 have HX:Aside (Below w.heap.size w X∧(w.alloc (.cells #[.slice a n1 c,.slice pl n2 cl,.slice ps n3 sc,.int .i64 op] 29)).alloc (.cells #[.slice a' n1 c',.slice pl' n2' cl',.slice ps' n3 sc',.int .i64 op] 29)=X):=⟨hBX,hX⟩
 rw [← hX] at hsu
 clear hBX hX hL hL' hT hT' hO hO' hS hS' h1 h2 e1 e2 e2' e3
 go_enter Tryz.func18,Tryz.ntmps18
 go_wp2_with (first
  | (go_at_call 25;refine hsu.mono ?_;clear hsu;rintro r w3 ⟨rfl,hB3⟩;rw [HX.out.2] at hB3;have x2:=(hB3.cell (p:=⟨w.heap.size,2,none⟩) l0).trans b2;have x3:=(hB3.cell (p:=⟨w.heap.size,3,none⟩) l0).trans b3;have y2:=(hB3.cell (p:=⟨w.heap.size+1,2,none⟩) l1).trans d2;have y3:=(hB3.cell (p:=⟨w.heap.size+1,3,none⟩) l1).trans d3)
  | (go_at_call 23;refine (hsa _ (Below.onto HX.out.1 hB3)).mono ?_;clear hsa;rintro r w4 ⟨rfl,hB4⟩;have u3:=(hB4.cell (p:=⟨w.heap.size,3,none⟩) (Nat.lt_of_lt_of_le l0 hB3.size)).trans x3;have v3:=(hB4.cell (p:=⟨w.heap.size+1,3,none⟩) (Nat.lt_of_lt_of_le l1 hB3.size)).trans y3))
 go_ret
 exact ⟨by simp,Below.onto (Below.onto HX.out.1 hB3) hB4⟩
end Go.Proofs.YthfeoiffoeagkaaGreatDoor
