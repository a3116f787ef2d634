import Derived.Test.YtjnkfelecopbjaaGreatDoorYA21
import Derived.Test.YtjnkfelecopbjaaGreatDoorYA27
open Go.Value renaming slice->ah
set_option linter.all false
set_option maxRecDepth 100000
namespace Go.Proofs.YtjnkfelecopbjaaGreatDoor
open Go.RowKit PM Go.Sort
theorem Ev(es:List bP)(els:List (List bP))(tr:List bP)(op:Int)(a a':Option Addr)(c c':Nat)(ls ls':List Lay)(pl qA:Option Addr)(cl cl':Nat)(ps ps':Option Addr)(sc sc':Nat)(n1 n2 n2' n3:Nat)(e1:n1=es.length)(e2:n2=ls.length)(e2':n2'=ls'.length)(e3:n3=tr.length)(w:World)(hL:bI w a es)(J4:bI w a' es)(oq:es.length<4611686018427387904)(hT:gj w pl ls)(hT':gj w qA ls')(hO:∀ x∈ls,jP w x)(CY:∀ x∈ls',jP w x)(h1:ls.map (·.es)=els)(h2:ls'.map (·.es)=els)(hn:els.length<=80)(hS:bI w ps tr)(Ha:bI w ps' tr)(ht:tr.length<4611686018427387904):EI 6 #[.agg #[ah a n1 c,ah pl n2 cl,ah ps n3 sc,.int .i64 op],.agg #[ah a' n1 c',ah qA n2' cl',ah ps' n3 sc',.int .i64 op]] w:=by
 obtain⟨X,hX⟩:=o7 ((w.alloc (.cells #[ah a n1 c,ah pl n2 cl,ah ps n3 sc,.int .i64 op] 29)).alloc (.cells #[ah a' n1 c',ah qA n2' cl',ah ps' n3 sc',.int .i64 op] 29))
 have mg:Below w w X:=by rw[<- hX];exact((aR _ _).alloc (aV _) _).alloc (by simp) _
 have Ao:=Ew es els a a' c c' ls ls' pl qA cl cl' X (hL.bB mg) (J4.bB mg) oq (hT.bB mg) (hT'.bB mg) (fun x hx=>(hO x hx).bB mg) (fun x hx=>(CY x hx).bB mg) h1 h2 hn;have hsa:=fun Y (hY:Below w.heap.size w Y)=>DD tr ps ps' sc sc' Y (hS.bB hY) (Ha.bB hY) ht
 rw[<- e1,<- e2,<- e2']at Ao;rw[<- e3]at hsa;obtain⟨⟨b0,b1,b2,b3⟩,_⟩:=cK (nB hX);obtain⟨⟨d0,d1,d2,d3⟩,_⟩:=cK (jm hX);have Sw:X.heap.size=w.heap.size+2:=by rw[<- hX];simp
 have l0:w.heap.size<X.heap.size:=by omega
 have l1:w.heap.size+1<X.heap.size:=by omega
 clear Sw;have HX:Aside (Below w w X/\(w.alloc (.cells #[ah a n1 c,ah pl n2 cl,ah ps n3 sc,.int .i64 op] 29)).alloc (.cells #[ah a' n1 c',ah qA n2' cl',ah ps' n3 sc',.int .i64 op] 29)=X):=⟨mg,hX⟩
 rw[<- hX]at Ao;clear mg hX hL J4 hT hT' hO CY hS Ha h1 h2 e1 e2 e2' e3;go_enter Tryz.func6,Tryz.ntmps6;go_wp2_with (first
  | (go_at_call 16;refine Ao.mono ?_;clear Ao;rintro r w3 ⟨rfl,eG⟩;rw[HX.2]at eG;have x2:=(eG.cell (p:=⟨w,2,none⟩) l0).trans b2;have x3:=(eG.cell (p:=⟨w,3,none⟩) l0).trans b3;have y2:=(eG.cell (p:=⟨↑w+1,2,none⟩) l1).trans d2;have y3:=(eG.cell (p:=⟨↑w+1,3,none⟩) l1).trans d3)
  | (go_at_call 17;refine(hsa _ (Below.bK HX.1 eG)).mono ?_;clear hsa;rintro r w4 ⟨rfl,eO⟩;have u3:=(eO.cell (p:=⟨w,3,none⟩) (aZ l0 eG.size)).trans x3;have v3:=(eO.cell (p:=⟨↑w+1,3,none⟩) (aZ l1 eG.size)).trans y3))
 go_ret;exact⟨by simp,Below.bK (Below.bK HX.1 eG) eO⟩
