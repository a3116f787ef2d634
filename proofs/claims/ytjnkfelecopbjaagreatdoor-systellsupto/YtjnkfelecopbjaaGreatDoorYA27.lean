import Derived.Test.YtjnkfelecopbjaaGreatDoorYA9
open Go.Value renaming slice->ah
open Go.Obj renaming cells->aM
open Option renaming none->aN,some->aO
set_option linter.all false
set_option maxHeartbeats 2000000
set_option maxRecDepth 100000
namespace Go.Proofs.YtjnkfelecopbjaaGreatDoor
open Go.RowKit PM Go.Sort
theorem Ew(es:List bP)(els:List (List bP))(a a':Option Addr)(c c':Nat)(ls ls':List Lay)(pl qA:Option Addr)(cl cl':Nat)(w:World)(hL:bI w a es)(J4:bI w a' es)(oq:es.length<4611686018427387904)(hT:gj w pl ls)(hT':gj w qA ls')(hO:∀ x∈ls,jP w x)(CY:∀ x∈ls',jP w x)(h1:ls.map (·.es)=els)(h2:ls'.map (·.es)=els)(hn:els.length<=80):EI 16 #[.agg #[ah a es.length c,ah pl ls.length cl],.agg #[ah a' es.length c',ah qA ls'.length cl']] w:=by
 have Ao:=fun W (hB:Below w.heap.size w W)=>DD es a a' c c' W (hL.bB hB) (J4.bB hB) oq
 obtain⟨k,hk⟩:∃ k,k=es.length:=⟨_,rfl⟩
 have J9:ls.length=els.length:=by rw[<- h1,bQ]
 have Sf:ls'.length=els.length:=by rw[<- h2,bQ]
 rw[<- hk]at Ao ⊢;rw[J9,Sf];obtain⟨n,Em⟩:∃ n,n=els.length:=⟨_,rfl⟩
 rw[<- Em]at hn ⊢;have HT:Aside (gj w pl ls/\gj w qA ls'/\(∀ x∈ls,jP w x)/\(∀ x∈ls',jP w x)/\ls.map (·.es)=els/\ls'.map (·.es)=els/\n=els.length):=⟨hT,hT',hO,CY,h1,h2,Em⟩
 have FI:Aside (Below (w.heap.size+2) ((w.alloc (aM #[ah a k c,ah pl n cl] 26)).alloc (aM #[ah a' k c',ah qA n cl'] 26)) ((w.alloc (aM #[ah a k c,ah pl n cl] 26)).alloc (aM #[ah a' k c',ah qA n cl'] 26))):=aR _ _;clear hL J4 hT hT' hO CY h1 h2 Em hk J9 Sf;go_enter Tryz.func16,Tryz.ntmps16;go_wp2_with (go_at_call 17;refine(Ao _ (lG FI.out)).mono ?_;clear Ao;rintro r w1 ⟨rfl,zM⟩;have lV:Aside (Below (w.heap.size+2) ((w.alloc (aM #[ah a k c,ah pl n cl] 26)).alloc (aM #[ah a' k c',ah qA n cl'] 26)) w1):=AL FI.out zM;obtain⟨⟨u0,u1⟩,_⟩:=FU lV.out;obtain⟨⟨v0,v1⟩,_⟩:=xx lV.out;clear zM);go_loopg [24] n (fun gg s24 wr=>∃ j:Nat,j<=n/\n-j<=gg/\s24=.int .i64 j/\Aside (Below (w.heap.size+2) ((w.alloc (aM #[ah a k c,ah pl n cl] 26)).alloc (aM #[ah a' k c',ah qA n cl'] 26)) wr))
 case atStart=>exact⟨0,bF _,by omega,rfl,lV.out⟩
 case round=>
  obtain⟨j,hj,oP,rfl,BW⟩:=hrel;by_cases gm:j<n
  ·have eN:(j:Int)<(n:Int):=by omega
   have hjw:IntKind.i64.wrap (j:Int)=(j:Int):=by rw[qq];omega
   clear u0 u1 v0 v1;obtain⟨⟨u0,u1⟩,_⟩:=FU BW.out;obtain⟨⟨v0,v1⟩,_⟩:=xx BW.out;have pJ:=lG BW.out;obtain⟨x,hx⟩:∃ x,ls[j]?=aO x:=⟨_,aU (by have h:=HT.out;have:=congrArg List.length h.2.2.2.2.1;rw[bQ]at this;omega)⟩
   obtain⟨y,hy⟩:∃ y,ls'[j]?=aO y:=⟨_,aU (by have h:=HT.out;have:=congrArg List.length h.2.2.2.2.2.1;rw[bQ]at this;omega)⟩
   have Nx:y.es=x.es:=by
    have g1:els[j]?=aO x.es:=by rw[<- HT.out.2.2.2.2.1,cD,hx];rfl
    have g2:els[j]?=aO y.es:=by rw[<- HT.out.2.2.2.2.2.1,cD,hy];rfl
    rw[g1]at g2;exact(qB g2).symm
   have YU:=HT.out.2.2.1 x (bw hx);have hoy:=HT.out.2.2.2.1 y (bw hy);have Am:=fun W (hB:Below w.heap.size w W)=>DD x.es x.ad y.ad x.cap y.cap W (YU.anO.bB hB) (Nx▸hoy.anO.bB hB) YU.small
   rcases HT.out.1 with h0|⟨b,off,rfl,hb,hc⟩
   ·rw[h0]at hx;simp at hx
   rcases HT.out.2.1 with h0|⟨b',off',rfl,ot,Hd⟩
   ·rw[h0]at hy;simp at hy
   have c0:wr.cell? ⟨b,off+j,aN⟩=aO (ah x.ad x.es.length x.cap):=(pJ.cell (p:=⟨b,off+j,aN⟩) hb).trans (hc j x hx);have c1:wr.cell? ⟨b',off'+j,aN⟩=aO (ah y.ad x.es.length y.cap):=by rw[<- Nx];exact(pJ.cell (p:=⟨b',off'+j,aN⟩) ot).trans (Hd j y hy)
   have Sd:=bg u1;simp only at Sd;have J9:=bg v1;simp only at J9;have Sf:=bg c0;simp only at Sf;have hl3:=bg c1;simp only at hl3;clear hc Hd hx hy YU hoy Nx u0 v0 HT;generalize x.es.length=xn at c0 c1 Am;go_wp2;go_region_held3 (fun w'=>w'.cell? ⟨w.heap.size,1,aN⟩=aO (ah (aO ⟨b,off,aN⟩) n cl)/\w'.cell? ⟨w.heap.size+1,1,aN⟩=aO (ah (aO ⟨b',off',aN⟩) n cl')/\w'.cell? ⟨b,off+j,aN⟩=aO (ah x.ad xn x.cap)/\w'.cell? ⟨b',off'+j,aN⟩=aO (ah y.ad xn y.cap)) (go_keep) (first
    | (go_at_call 17;refine(Am _ pJ.drew).mono ?_;clear Am;rintro r w2 ⟨rfl,rB⟩;have QE:Aside (Below (w.heap.size+2) ((w.alloc (aM #[ah a k c,ah (aO ⟨b,off,aN⟩) n cl] 26)).alloc (aM #[ah a' k c',ah (aO ⟨b',off',aN⟩) n cl'] 26)) w2):=AL BW.out (((aR _ _).drew).trans rB);have t0:=(rB.cell (p:=⟨w.heap.size,1,aN⟩) Sd).trans u1;have t1:=(rB.cell (p:=⟨w.heap.size+1,1,aN⟩) J9).trans v1;have t2:=(rB.cell (p:=⟨b,off+j,aN⟩) Sf).trans c0;have t3:=(rB.cell (p:=⟨b',off'+j,aN⟩) hl3).trans c1;clear rB))
   go_wp2;go_roundg (n-(j+1))
   case measure=>omega
   case rel=>exact⟨j+1,by omega,by omega,by go_num,QE.out⟩
  ·obtain rfl:j=n:=by omega
   have eN:¬ (j:Int)<(j:Int):=by omega
   go_wp2;go_ret;exact⟨rfl,lG BW.out⟩
