import Derived.Test.YtjnkfelecopbjaaGreatDoorYA13
open Go.Proofs.Tryz
open Go.Value renaming int->aa,slice->ah,string->ai,pointer->aj,bool->aq,agg->ar,tuple->aL
open Go.IntKind renaming i64->ag
open Go.RowKit renaming Below->au
open Go renaming World->aw,Aside->ax,Calls->ay,Value->az,Addr->aJ
open _root_ renaming ByteArray->aA,List->aB,Option->aC,Nat->aE,Int->aF
open Bool renaming false->aH,true->aI
open Go.Ending renaming returned->aK
open Go.Obj renaming cells->aM
open Option renaming none->aN,some->aO
open Go.Proofs.Tryz renaming prog->aP
set_option linter.all false
set_option maxHeartbeats 8000000
set_option maxRecDepth 100000
namespace Go.Proofs.YtjnkfelecopbjaaGreatDoor
open Go.RowKit PM Go.Sort
variable{L:im}{S aS:aE}{W W' X w':aw}{an:An}{r:Ending}
theorem xB(w:aw)(o:Obj)(p:aJ)(v:az)(h:p.block<w):(w.alloc o).setCell p v=(w.setCell p v).alloc o:=by
 have hm:∀ f:Obj->Obj,(w.heap.push o).modify p.block f=(w.heap.modify p.block f).push o:=by
  intro f;apply Array.ext_getElem?;intro i;rw[iJ,FG,FG,iJ,Array.size_modify];by_cases h1:p.block=i
  ·subst h1
   have h2:¬ p.block=w.heap.size:=by omega
   simp[h2]
  ·simp[h1]
 unfold World.setCell World.alloc;simp only[hm]
namespace PM
def Sy.anR(s:Sy)(q:aA)(use:aF)(n:aE):Sy:=((s.anP q).1.kP ⟨(s.anP q).2,use,0⟩).dL n (aO (s.anP q).1.bJ.length)
end PM
theorem Ta{X1 X2 w5:aw}{s s1:Sy}{L1 L2 L5:im}{q:aA}{use:aF}{o k:aE}(h:bV aS X S s L)(fg:au X X X1)(tJ:L1.ex=fun b=>b=X.heap.size\/L.ex b)(ho1:L1.ob=L.ob)(VB:L1.fb=L.fb)(Lf:L2.ob=L1.ob)(O3:L2.fb=L1.fb)(yc:L2.ex=L1.ex)(uX:au aS X1 X2)(j4:cA (·=S) X1 X2)(hn:kO s s1)(h5:bV aS w5 S (s1.anP q).1 L5)(ho5:L5.ob=L2.ob)(hx5:L5.ex=L2.ex)(fA:au X2 X2 w5)(hf5:∀ x,x<s1.bh.length->L5.fb x=L2.fb x)(hg5:∀ x,s1.bh.length<=x->x<(s1.anP q).1.bh.length->X2.heap.size<=L5.fb x)(hi5:(s1.anP q).2<(s1.anP q).1.bh.length)(gX:(s1.anP q).1.bJ=s1.bJ)(zg:o<4)(Ej:k<8)(kV:w5.heap[X.heap.size]?=aO (aM #[aa ag 0,aa ag 0,ai ⟨#[]⟩,ah aN 0 0] 38))(Z:aw)(hZ:Z=(w5.setCell ⟨S,3+o*8+k,aN⟩ (aj (aO w5))).alloc (aM #[aj (aO ⟨L5.fb (s1.anP q).2,0,aN⟩),aa ag use,aa ag 0] 80)):∃ L6,bV aS Z S (s1.anR q use (o*8+k)) L6/\(∀ b,L6.ex b↔b=X.heap.size\/L.ex b)/\au aS X Z/\cA (rv S s L) X Z/\Z.heap[X.heap.size]?=aO (aM #[aa ag 0,aa ag 0,ai ⟨#[]⟩,ah aN 0 0] 38)/\∀ b,Sp S (s1.anR q use (o*8+k)) L6 b->Sp S s L b\/X.heap.size<=b:=by
 obtain⟨L6,h6,e1,e2,e3,e4⟩:=h5.S3 (s1.anP q).2 hi5 use;have h7:=h6.number (k:=o*8+k) (by omega) (aO (s1.anP q).1.bJ.length) (fun x hx=>by cases hx;simp[Sy.kP]) (aj (aO w5)) (by rw[<- e2];rfl);rw[<- dh,xB _ _ _ _ (by exact h5.lt),<- hZ]at h7;have Yt:aS<=X.heap.size:=bc h.aS.1 (bM h.lt);have xu:=fg.size;have BX:=j4.size;have UE:=fA.size;have Yr:au aS X w5:=((fg.mono Yt).trans uX).trans (fA.mono (by omega));have DU:aS<=S:=h.aS.1;have hbZ:au aS X Z:=by rw[hZ];have h1:=Yr.setCell (p:=⟨S,3+o*8+k,aN⟩) DU (aj (aO w5));exact h1.alloc (bc Yt h1.size) _
 have hkZ:cA (rv S s L) X Z:=by have h1:cA (rv S s L) X w5:=(cA.LF fg j4 (fun b hb=>.inl hb)).trans (cA.dB _ fA);rw[hZ];exact(h1.trans (cA.set (.inl rfl) _ _ _)).trans (cA.dB _ ((Grown.refl _).alloc _).below)
 refine⟨L6,h7,fun b=>by rw[e3,hx5,yc,tJ],hbZ,hkZ,?_,fun b hb=>?_⟩
 ·rw[hZ]
  have gm:X.heap.size<w5.heap.size:=(aX.1 kV).1;refine(((Grown.refl _).alloc _).below.block _ (by simp[World.setCell];exact gm)).trans ((cI _ _ _ _ (fun e=>?_)).trans kV);have e:X=S:=e;have:=h.lt;omega
 ·rcases hb with(e|hx)|⟨j,hj,e⟩|⟨i,hi,e⟩
  ·exact .inl (.inl (.inl e))
  ·rw[e3,hx5,yc,tJ]at hx
   rcases hx with e|hx
   ·exact .inr (rP e.symm)
   ·exact .inl (.inl (.inr hx))
  ·have hj:j<(s1.anP q).1.bJ.length+1:=by simpa[Sy.anR,Sy.dL,Sy.kP]using hj
   rcases gR j (s1.anP q).1.bJ.length with hj|Ns
   ·rw[e4 j hj,ho5,Lf,ho1]at e
    rw[gX,hn.1]at hj;exact .inl (.inr (.inl ⟨j,hj,e⟩))
   ·rw[show j=(s1.anP q).1.bJ.length by omega,e2]at e
    right;omega
  ·have hi:i<(s1.anP q).1.bh.length:=by simpa[Sy.anR,Sy.dL,Sy.kP]using hi
   rw[e1]at e;rcases gR i s1.bh.length with W9|W9
   ·rw[hf5 i W9,O3,VB]at e
    rw[hn.2]at W9;exact .inl (.inr (.inr ⟨i,W9,e⟩))
   ·have:=hg5 i W9 hi
    right;omega
theorem Zh{s:Sy}(h:bV aS X S s L)(hg:Gl aS X)(B0 B1 B2 B3 B4 B5 o k:aE)(zg:o<4)(Ej:k<8)(q:aA)(use:aF)(ph:X.cell? B0=aO (aj (aO S)))(Yc:¬ Sp S s L B0)(fC:X.cell? B2=aO (ai q))(Yd:¬ Sp S s L B2)(eG:X.cell? ⟨B3,3,aN⟩=aO (aa ag use))(Ye:¬ Sp S s L B3)(eO:X.cell? B4=aO (aj (aO ⟨S,3+o*8,aN⟩)))(Yf:¬ Sp S s L B4)(fA:X.cell? B5=aO (aa ag k))(Yg:¬ Sp S s L B5)(y:Lay)(lo:aB Lay)(pl:aC aJ)(cl:aE)(si:uE X B1 y lo pl cl)(hU:St (Sp S s L) X (fun X=>eZ X y lo pl cl))(h0:(bH (y.es::lo.map (·.es))).1=0):ay aP 73 #[aj (aO B0),aj (aO B1),aj (aO B2),aj (aO B3),aj (aO B4),aj (aO B5)] X (ki aS S s L ((s.di y.es (lo.map (·.es))).anR q use (o*8+k)) (gz k ⟨#[]⟩) X):=by
 obtain⟨c0,c1⟩:=si;obtain⟨L1,lj⟩:=ee ({ L with ex:=fun b=>b=X.heap.size\/L.ex b }:im)
 obtain⟨X1,yD⟩:=o7 (X.alloc (aM #[aa ag 0,aa ag 0,ai ⟨#[]⟩,ah aN 0 0] 38))
 have fg:au X X X1:=by rw[<- yD];exact((Grown.refl X).alloc _).below
 have h1:=h.aside (aM #[aa ag 0,aa ag 0,ai ⟨#[]⟩,ah aN 0 0] 38);have zN:=St.aside hU (aM #[aa ag 0,aa ag 0,ai ⟨#[]⟩,ah aN 0 0] 38);rw[yD,<- lj]at h1 zN;have pN:au aS X X1:=fg.mono (bc h.aS.1 (bM h.lt));have kQ:=pU h1 (hg.bB pN) y lo pl cl zN h0;have ID:X1.heap[X.heap.size]?=aO (aM #[aa ag 0,aa ag 0,ai ⟨#[]⟩,ah aN 0 0] 38):=by rw[<- yD];exact heap_alloc_last X _
 have HA:ax (bV aS X S s L/\au X X X1/\X1.heap[X.heap.size]?=aO (aM #[aa ag 0,aa ag 0,ai ⟨#[]⟩,ah aN 0 0] 38)/\(L1.ex=fun b=>b=X.heap.size\/L.ex b)/\L1.ob=L.ob/\L1.fb=L.fb):=⟨h,fg,ID,by rw[lj],by rw[lj],by rw[lj]⟩
 have HK:ax (∀ X2,cA (·=S) X1 X2->X2.cell? B0=aO (aj (aO S))/\X2.cell? B2=aO (ai q)/\X2.cell? ⟨B3,3,aN⟩=aO (aa ag use)/\X2.cell? B4=aO (aj (aO ⟨S,3+o*8,aN⟩))/\X2.cell? B5=aO (aa ag k)):=by
  show ∀ X2,_;intro X2 hk;have go:∀ B i v,X.cell? ⟨B,i,aN⟩=aO v->¬ Sp S s L B->X2.cell? ⟨B,i,aN⟩=aO v:=fun B i v hv hn=>by have hl:=bg hv;simp only at hl;exact(gY ((hk.block B (aZ hl fg.size) (fun e=>hn (.inl (.inl e)))).trans (fg.block B hl)) i).trans hv
  exact⟨go _ _ _ ph Yc,go _ _ _ fC Yd,go _ _ _ eG Ye,go _ _ _ eO Yf,go _ _ _ fA Yg⟩
 have aB0:=bj (aM #[aa ag 0,aa ag 0,ai ⟨#[]⟩,ah aN 0 0] 38) ph;have nB0:¬ S=B0:=fun e=>Yc (.inl (.inl e.symm))
 have lB0:=bg ph;simp only at lB0;have aB2:=bj (aM #[aa ag 0,aa ag 0,ai ⟨#[]⟩,ah aN 0 0] 38) fC;have nB2:¬ S=B2:=fun e=>Yd (.inl (.inl e.symm))
 have lB2:=bg fC;simp only at lB2;have aB3:=bj (aM #[aa ag 0,aa ag 0,ai ⟨#[]⟩,ah aN 0 0] 38) eG;have nB3:¬ S=B3:=fun e=>Ye (.inl (.inl e.symm))
 have lB3:=bg eG;simp only at lB3;have aB4:=bj (aM #[aa ag 0,aa ag 0,ai ⟨#[]⟩,ah aN 0 0] 38) eO;have nB4:¬ S=B4:=fun e=>Yf (.inl (.inl e.symm))
 have lB4:=bg eO;simp only at lB4;have aB5:=bj (aM #[aa ag 0,aa ag 0,ai ⟨#[]⟩,ah aN 0 0] 38) fA;have nB5:¬ S=B5:=fun e=>Yg (.inl (.inl e.symm))
 have lB5:=bg fA;simp only at lB5;have d0:=bj (aM #[aa ag 0,aa ag 0,ai ⟨#[]⟩,ah aN 0 0] 38) c0;have d1:=bj (aM #[aa ag 0,aa ag 0,ai ⟨#[]⟩,ah aN 0 0] 38) c1;have He:(k:aF)<8:=by omega
 have HE:ax (X.alloc (aM #[aa ag 0,aa ag 0,ai ⟨#[]⟩,ah aN 0 0] 38)=X1):=yD;rw[<- yD]at kQ;have Vs:=h.lt;clear h hg hU h0 fg h1 zN yD ID lj pN c0 c1 Yc ph Yd fC Ye eG Yf eO Yg fA;generalize y.es.length=yn at d0 kQ;generalize lo.length=ln at d1 kQ;obtain⟨s1,xu⟩:=ee (s.di y.es (lo.map (·.es)))
 have tF:ax (kO s s1):=by rw[xu];exact⟨rfl,rfl⟩
 rw[<- xu]at kQ ⊢;clear xu;go_enter func73,ntmps73;go_wp2_with (go_at_call 74;refine kQ.mono ?_;clear kQ;rintro r X2 ⟨rfl,hS2⟩;rw[HE.out]at hS2;obtain⟨L2,CW,Lf,O3,yc,uX,j4⟩:=hS2;obtain⟨t0,t2,t3,t4,t5⟩:=HK.out X2 j4;have hfa:=AW CW q;have H2:ax (bV aS X2 S s1 L2/\L2.ob=L1.ob/\L2.fb=L1.fb/\L2.ex=L1.ex/\au aS X1 X2/\cA (·=S) X1 X2):=⟨CW,Lf,O3,yc,uX,j4⟩;have l12:X.heap.size<X2.heap.size:=aZ (aX.1 HA.2.2.1).1 j4.size;clear CW Lf O3 yc uX j4);have c3:=H2.1.fd (k:=o*8+k) (by omega);have c3:X2.cell? ⟨S,3+o*8+k,aN⟩=aO (aj ((s1.fds (o*8+k)).map fun j=>⟨L2.ob j,0,aN⟩)):=by rw[dh];exact c3
 have f3:=H2.1.EW (3+o*8+k);have lS2:S<X2.heap.size:=H2.1.lt;have mB0:B0<X2.heap.size:=BH lB0 l12;have mB2:B2<X2.heap.size:=BH lB2 l12;have mB3:B3<X2.heap.size:=BH lB3 l12;have mB4:B4<X2.heap.size:=BH lB4 l12;have mB5:B5<X2.heap.size:=BH lB5 l12;have abr:∀ Y,Y=X2.drew->ay aP 75 #[aj (aO S),ai q] Y (fun r w'=>∃ ZP,r=aK (aj (aO ⟨ZP,0,aN⟩))/\au X2 X2 w'/\ax (∃ L5:im,ZP=L5.fb (s1.anP q).2/\bV aS w' S (s1.anP q).1 L5/\L5.ob=L2.ob/\L5.ex=L2.ex/\(∀ x,x<s1.bh.length->L5.fb x=L2.fb x)/\(∀ x,s1.bh.length<=x->x<(s1.anP q).1.bh.length->X2.heap.size<=L5.fb x)/\(s1.anP q).2<(s1.anP q).1.bh.length/\(s1.anP q).1.bJ=s1.bJ)):=fun Y hY=>by subst hY;exact(AW (H2.1.bB (aR _ _).drew) q).mono fun r w' ⟨L5,e1,e2,e3,e4,e5,e6,e7,e8,e9⟩=>⟨_,e1,((aR _ _).drew).trans e5,L5,rfl,e2,e3,e4,e6,e7,e8,e9⟩
 clear hfa;go_region_held3 (fun w'=>w'.cell? B0=aO (aj (aO S))/\w'.cell? B2=aO (ai q)/\w'.cell? ⟨B3,3,aN⟩=aO (aa ag use)/\w'.cell? B4=aO (aj (aO ⟨S,3+o*8,aN⟩))/\w'.cell? B5=aO (aa ag k)) (go_keep) (first|(go_at_call 75;refine(abr _ rfl).mono ?_;clear abr;rintro r w5 ⟨ZP,rfl,fA,H5⟩;have zB0:=(fA.cell (p:=B0) mB0).trans t0;have eB0:=World.new_ne w5 ⟨B0,0,aN⟩ zB0;have zB2:=(fA.cell (p:=B2) mB2).trans t2;have eB2:=World.new_ne w5 ⟨B2,0,aN⟩ zB2;have zB3:=(fA.cell (p:=⟨B3,3,aN⟩) mB3).trans t3;have eB3:=World.new_ne w5 ⟨B3,3,aN⟩ zB3;have zB4:=(fA.cell (p:=B4) mB4).trans t4;have eB4:=World.new_ne w5 ⟨B4,0,aN⟩ zB4;have zB5:=(fA.cell (p:=B5) mB5).trans t5;have eB5:=World.new_ne w5 ⟨B5,0,aN⟩ zB5;have c4:=(fA.cell (p:=⟨S,3+o*8+k,aN⟩) lS2).trans c3;have f4:=(fA.frozen (p:=⟨S,3+o*8+k,aN⟩) lS2).trans f3;have eS:=World.new_ne w5 ⟨S,3+o*8+k,aN⟩ c4;have eS':¬ S=w5.heap.size:=(fun e=>eS e.symm);have a4:=bj (aM #[aj (aO ZP),aa ag use,aa ag 0] 80) c4;have b4:(w5.alloc (aM #[aj (aO ZP),aa ag use,aa ag 0] 80)).frozen? ⟨S,3+o*8+k,aN⟩=aH:=(((Grown.refl w5).alloc _).below.frozen (p:=⟨S,3+o*8+k,aN⟩) (aZ lS2 fA.size)).trans f4));all_goals
  have abf:w5.heap[X.heap.size]?=aO (aM #[aa ag 0,aa ag 0,ai ⟨#[]⟩,ah aN 0 0] 38):=(fA.block _ l12).trans ((H2.2.2.2.2.2.block _ (aX.1 HA.2.2.1).1 (fun e=>by have e:X=S:=e;omega)).trans HA.2.2.1);obtain⟨Z,hZ⟩:=ee ((w5.setCell ⟨S,3+o*8+k,aN⟩ (aj (aO w5))).alloc (aM #[aj (aO ZP),aa ag use,aa ag 0] 80))
  have HM:ax (∃ L6,bV aS Z S (s1.anR q use (o*8+k)) L6/\(∀ b,L6.ex b↔b=X.heap.size\/L.ex b)/\au aS X Z/\cA (rv S s L) X Z/\Z.heap[X.heap.size]?=aO (aM #[aa ag 0,aa ag 0,ai ⟨#[]⟩,ah aN 0 0] 38)/\∀ b,Sp S (s1.anR q use (o*8+k)) L6 b->Sp S s L b\/X.heap.size<=b):=by obtain⟨L5,e0,e2,e3,e4,e6,e7,e8,e9⟩:=H5.out;exact Ta HA.1 HA.2.1 HA.2.2.2.1 HA.2.2.2.2.1 HA.2.2.2.2.2 H2.2.1 H2.2.2.1 H2.2.2.2.1 H2.2.2.2.2.1 H2.2.2.2.2.2 tF.out e2 e3 e4 fA e6 e7 e8 e9 zg Ej abf Z (by rw[hZ,e0])
  have Yr:Z.cell? B5=aO (aa ag k):=by rw[hZ];refine bj _ ((gY (cI _ _ _ _ (fun e=>nB5 ?_)) 0).trans zB5);exact e.symm
  have abg:Z.heap[X.heap.size]?=aO (aM #[aa ag 0,aa ag 0,ai ⟨#[]⟩,ah aN 0 0] 38):=by obtain⟨L6,_,_,_,_,r,_⟩:=HM.out;exact r
  rw[xB _ _ _ _ (show S<w5 from aZ lS2 fA.size),<- hZ];obtain⟨⟨d0,d1,d2,d3⟩,z0,z1,z2,z3⟩:=cK abg;clear hZ abf abg H5 H2 HK zB0 zB2 zB3 zB4 zB5 c3 c4 f3 f4 a4 b4;go_wp2;refine ba (v:=ar #[aa ag 0,aa ag k,ai ⟨#[]⟩,ah aN 0 0]) (by simp[results,results73,go_sem,d0,d1,d2,d3]) rfl ?_;obtain⟨L6,p1,p2,p3,p4,p5,p6⟩:=HM.out;obtain⟨k1,k2⟩:=p1.anL ((p2 _).2 (.inl rfl)) p5 (aa ag 0) (aa ag k) (ai ⟨#[]⟩) (ah aN 0 0);refine⟨_,L6,rfl,k1,pG _ _ _ _,p3.trans k2,fun b hb=>(p2 b).2 (.inr hb),⟨bc p4.size (by simp[World.setCell]),fun x hx hn=>?_⟩,p6⟩;have hne:∀ (Y:aw) (i:aE) (v:az),(Y.setCell ⟨X,i,aN⟩ v).heap[x]?=Y.heap[x]?:=fun Y i v=>cI _ _ _ _ (by show x≠X.heap.size;omega)
  rw[hne,hne,hne,hne];exact p4.block x hx hn
namespace PM
def Sy.tL(s:Sy)(cn:aF)(cp:aA):aF × aB UInt8:=dV s.bA (bits BinOp.and IntKind.i64 cn 16 == 0) cp.data.toList
noncomputable def Sy.gA(s:Sy)(o:aE)(cn:aF)(cp:aA):aF:=if sS cn=aH then 8 else if s.eF o<0 then 5 else if ¬ (s.tL cn cp).1=0 then(s.tL cn cp).1 else s.kE (s.tL cn cp).2 cn
def Sy.sG(s:Sy)(o:aE)(cn:aF)(cp:aA):Sy:=(s.di (s.jD (s.tL cn cp).2 cn) s.cq).anR (fU (s.tL cn cp).2) cn (o*8+(s.eF o).toNat)
end PM
theorem S9{Wf:aw}{s:Sy}(h:bV aS W S s L)(hg:Gl aS W)(hB:au W W Wf){B0 B1 B2 B3 B4 B5 o k:aE}{q:aA}{use:aF}{y:Lay}{lo:aB Lay}{pl:aC aJ}{cl:aE}{up:aB bP}(zg:o<4)(Ej:k<8)(l0:W<=B0)(l2:W<=B2)(l3:W<=B3)(l4:W<=B4)(l5:W<=B5)(h0:Wf.cell? B0=aO (aj (aO S)))(h2:Wf.cell? B2=aO (ai q))(h3:Wf.cell? ⟨B3,3,aN⟩=aO (aa ag use))(h4:Wf.cell? B4=aO (aj (aO ⟨S,3+o*8,aN⟩)))(h5:Wf.cell? B5=aO (aa ag k))(si:uE Wf B1 y lo pl cl)(hu:y.es=up/\lo.map (·.es)=s.cq/\St (Sp S s L) Wf (fun X=>eZ X y lo pl cl)/\(bH (up::s.cq)).1=0):cF aS S s L 0 ((s.di up s.cq).anR q use (o*8+k)) (gz k ⟨#[]⟩) W (aK (aL #[.func (.func 73) #[] #[aj (aO B0),aj (aO B1),aj (aO B2),aj (aO B3),aj (aO B4),aj (aO B5)],aa ag 0])) Wf:=by obtain⟨e1,e2,e3,e4⟩:=hu;refine⟨_,rfl,hB,fun _=>⟨_,_,rfl,enters_of func73 (by kernel_rfl) rfl,?_⟩⟩;have:=Zh (h.bB hB) (hg.bB (hB.mono (bc h.aS.1 (bM h.lt)))) B0 B1 B2 B3 B4 B5 o k zg Ej q use h0 (h.tW l0) h2 (h.tW l2) h3 (h.tW l3) h4 (h.tW l4) h5 (h.tW l5) y lo pl cl si e3 (by rw[e1,e2];exact e4);rw[e1,e2]at this;exact this
theorem JP{s:Sy}(h:bV aS W S s L)(hg:Gl aS W)(Xk:(bH s.all).1=0)(o:aE)(zg:o<4)(ck cf cn cm:aF)(cp ct cx:aA)(ca:Bool)(hw:cp.size<=maxLen):ay aP 41 #[aj (aO S),ar #[aa ag ck,aa ag o,aa ag cf,aa ag cn,aa ag cm,ai cp,ai ct,ai cx,aq ca]] W (cF aS S s L (s.gA o cn cp) (s.sG o cn cp) (gz (s.eF o) ⟨#[]⟩) W):=by
 obtain⟨W2,xD⟩:=o7 ((W.alloc (aM #[aj (aO S)] 42)).alloc (aM #[aa ag ck,aa ag o,aa ag cf,aa ag cn,aa ag cm,ai cp,ai ct,ai cx,aq ca] 51))
 have fC:au W W W2:=by rw[<- xD];exact((aR _ _).alloc (aV _) _).alloc (by simp) _
 have BX:W2.heap.size=W.heap.size+2:=by rw[<- xD];simp
 have eD:aS<=W.heap.size:=bc h.aS.1 (bM h.lt);have qF:=Ry cn W2;have rR:∀ Y,au W W Y->ay aP 70 #[aj (aO ⟨S,3+o*8,aN⟩)] Y (fun r w'=>r=aK (aL #[aa ag (if s.eF o<0 then 0 else s.eF o),aa ag (if s.eF o<0 then 5 else 0)])/\au Y.heap.size Y w'):=fun Y hY=>wJ (h.bB hY) o zg
 have xF:∀ Y,au W W Y->ay aP 71 #[aj (aO S),ai cp,aq (bits BinOp.and IntKind.i64 cn 16 == 0)] Y (jk (s.tL cn cp).1 (s.tL cn cp).2 Y):=fun Y hY=>by obtain⟨m,hm⟩:=(hg.bB (hY.mono eD)).2;exact zl s.bA cp _ Y S L.ps L.sc m (h.bB hY).cells.2.2 (h.bB hY).data.now.bA (cY s.all) hw hm
 have BV:(s.tL cn cp).2.length<=80:=jI _ _ _;have VM:∀ Y,au W W Y->∀ d:aA,d.data.toList=(s.tL cn cp).2->ay aP 72 #[aj (aO S),ai d,aa ag cn] Y (mb S s L (s.kE (s.tL cn cp).2 cn) (s.jD (s.tL cn cp).2 cn) Y):=fun Y hY d hd=>by have:=PT (h.bB hY) (hg.bB (hY.mono eD)) Xk d (by have:=ix d;rw[hd]at this;omega) cn;rw[hd]at this;exact this
 have HF:ax (s.eF o = -1\/∃ k:aE,k<8/\s.eF o=k/\s.fds (o*8+k)=aN):=qK s o;have HE:ax (s.gA o cn cp=(if sS cn=aH then 8 else if s.eF o<0 then 5 else if ¬ (s.tL cn cp).1=0 then(s.tL cn cp).1 else s.kE (s.tL cn cp).2 cn)/\s.sG o cn cp=(s.di (s.jD (s.tL cn cp).2 cn) s.cq).anR (fU (s.tL cn cp).2) cn (o*8+(s.eF o).toNat)):=⟨rfl,rfl⟩
 have HA:ax (bV aS W S s L/\Gl aS W/\au W W W2):=⟨h,hg,fC⟩
 have M1:ax ((W.alloc (aM #[aj (aO S)] 42)).alloc (aM #[aa ag ck,aa ag o,aa ag cf,aa ag cn,aa ag cm,ai cp,ai ct,ai cx,aq ca] 51)=W2):=xD;rw[<- xD]at qF;generalize s.gA o cn cp=er at HE ⊢;generalize s.sG o cn cp=sf at HE ⊢;generalize s.kE (s.tL cn cp).2 cn=ae at HE VM;generalize s.jD (s.tL cn cp).2 cn=up at HE VM;generalize (s.tL cn cp).1=e at HE xF;generalize (s.tL cn cp).2=q at HE xF VM BV;generalize s.eF o=R at HE rR HF ⊢;generalize sS cn=ft at HE qF;have YR:(o:aF)<4:=by omega
 have hSW:=h.lt;clear h hg Xk fC xD hw;cases ft with
 | false =>go_enter func41,ntmps41;go_wp2_with (go_at_call 69;refine qF.mono ?_;clear qF;rintro r w3 ⟨rfl,eG⟩;rw[M1.out]at eG);go_ret2;rw[HE.1,aY (by trivial)];exact cF.no _ (by decide) (Below.bK HA.2.2 eG)
 | true=>
  go_enter func41,ntmps41;go_wp2_with (go_at_call 69;refine qF.mono ?_;clear qF;rintro r w3 ⟨rfl,eG⟩;rw[M1.out]at eG);have h3:au W W w3:=Below.bK HA.2.2 eG;have b0:w3.cell? W=aO (aj (aO S)):=(eG.cell (p:=W) (by show W.heap.size<_;omega)).trans (by simp[World.cell?,nB M1.out]);have k1:w3.cell? ⟨↑W+1,1,aN⟩=aO (aa ag o):=(eG.cell (p:=⟨↑W+1,1,aN⟩) (by show W.heap.size+1<_;omega)).trans (by simp[World.cell?,jm M1.out]);have k3:w3.cell? ⟨↑W+1,3,aN⟩=aO (aa ag cn):=(eG.cell (p:=⟨↑W+1,3,aN⟩) (by show W.heap.size+1<_;omega)).trans (by simp[World.cell?,jm M1.out]);have k5:w3.cell? ⟨↑W+1,5,aN⟩=aO (ai cp):=(eG.cell (p:=⟨↑W+1,5,aN⟩) (by show W.heap.size+1<_;omega)).trans (by simp[World.cell?,jm M1.out]);have n0:=World.new_ne w3 ⟨W,0,aN⟩ b0;have n1:=World.new_ne w3 ⟨↑W+1,1,aN⟩ k1;clear eG BX;go_region_held3 (fun w'=>w'.cell? W=aO (aj (aO S))/\w'.cell? ⟨↑W+1,1,aN⟩=aO (aa ag o)) (go_keep) (fail);all_goals
   have nb:au w3 w3 (w3.alloc (aM #[aj (aO ⟨S,3+o*8,aN⟩)] 133)).drew:=(((Grown.refl w3).alloc _).below).drew;have EF:ax (∀ Y,au (w3.alloc (aM #[aj (aO ⟨S,3+o*8,aN⟩)] 133)).drew.heap.size (w3.alloc (aM #[aj (aO ⟨S,3+o*8,aN⟩)] 133)).drew Y->Y.cell? W=aO (aj (aO S))/\Y.cell? ⟨(W.heap.size+1),3,aN⟩=aO (aa ag cn)/\Y.cell? ⟨(W.heap.size+1),5,aN⟩=aO (ai cp)/\Y.cell? w3=aO (aj (aO ⟨S,3+o*8,aN⟩))):=by show ∀ Y,_;intro Y hY;have hY2:=Below.bK nb hY;exact⟨(hY2.cell (p:=W) (bg b0)).trans b0,(hY2.cell (p:=⟨↑W+1,3,aN⟩) (bg k3)).trans k3,(hY2.cell (p:=⟨↑W+1,5,aN⟩) (bg k5)).trans k5,(hY.cell (p:=w3) (by show w3.heap.size<(w3.alloc (aM #[aj (aO ⟨S,3+o*8,aN⟩)] 133)).heap.size;simp)).trans (by show(w3.alloc (aM #[aj (aO ⟨S,3+o*8,aN⟩)] 133)).cell? w3=_;simp)⟩
   have IB:au W W (w3.alloc (aM #[aj (aO ⟨S,3+o*8,aN⟩)] 133)).drew:=Below.bK h3 nb;obtain⟨B4,eO⟩:=ee w3.heap.size
   have lB4:W<=B4:=by rw[eO];exact h3.size
   rw[<- eO]at EF ⊢;generalize (w3.alloc (aM #[aj (aO ⟨S,3+o*8,aN⟩)] 133)).drew=X at EF IB ⊢;have HX:ax (au W W X):=IB;obtain⟨x0,x3,x5,x4⟩:=EF.out X (aR _ _);clear nb h3 eO b0 k1 k3 k5 n0 n1 IB;by_cases hR:R<0
   ·rw[aY hR,aY hR]at rR
    go_wp2_with (go_at_call 70;refine(rR _ HX.out).mono ?_;clear rR;rintro r w5 ⟨rfl,fA⟩;have hF:au X X (w5.alloc (aM #[aa ag 0] 3)):=Below.bK fA ((Grown.refl w5).alloc _).below;obtain⟨u0,u3,u5,u4⟩:=EF.out _ hF;have Yn:au W W (w5.alloc (aM #[aa ag 0] 3)):=Below.bK HX.out hF);go_ret2;rw[HE.1,aW (by simp),aY hR];exact cF.no _ (by decide) Yn
   ·rw[aW hR,aW hR]at rR
    by_cases mL:e=0
    ·subst mL
     by_cases hz:ae=0
     ·subst hz
      go_wp2_with (first|(go_at_call 70;refine(rR _ HX.out).mono ?_;clear rR;rintro r w5 ⟨rfl,fA⟩;have hF:au X X (w5.alloc (aM #[aa ag R] 3)):=Below.bK fA ((Grown.refl w5).alloc _).below;obtain⟨u0,u3,u5,u4⟩:=EF.out _ hF;have Yn:au W W (w5.alloc (aM #[aa ag R] 3)):=Below.bK HX.out hF)|(go_at_call 71;refine(xF _ Yn).mono ?_;clear xF;rintro r w6 ⟨d,rfl,hd,E3⟩;have Vn:au X X (w6.alloc (aM #[ai d] 9)):=Below.bK hF (Below.bK E3 ((Grown.refl w6).alloc _).below);obtain⟨v0,v3,v5,v4⟩:=EF.out _ Vn;have Cm:au W W (w6.alloc (aM #[ai d] 9)):=Below.bK HX.out Vn;have Pd:=VM _ Cm d hd;clear VM;have HD:ax (d.data.toList=q):=hd;clear hd)|(go_at_call 72;refine Pd.mono ?_;clear Pd;rintro r w7 ⟨y,lo,pl,cl,yn,ln,rfl,ie,H7⟩));go_ret2;rw[HE.1,aW (by simp),aW (show ¬ R<0 by omega),aW (by simp),HE.2];rcases HF.out with e|⟨k,hk,e,_⟩
      ·omega
      obtain⟨r1,r2,r3⟩:=H7.out;subst r1 r2;have nU:au w7 w7 (w7.alloc (aM #[ah y.ad y.es.length y.cap,ah pl lo.length cl] 26)):=((Grown.refl w7).alloc _).below;have G6:=Below.bK Cm (Below.bK ie nU);have hXf:=Below.bK Vn (Below.bK ie nU);obtain⟨g0,g3,g5,g4⟩:=EF.out _ hXf;obtain⟨p1,p2,p3,p4⟩:=r3 (by trivial);have BP:fU q=d:=fV (by rw[HD.out];simp[fU]);have h5s:=fA.size;have h6s:=E3.size;rw[cE]at h6s;have hXs:=HX.size;subst e;rw[BP,show((k:aF)).toNat=k from rfl];exact S9 HA.1 HA.2.1 G6 zg hk (aV _) (by omega) (by omega) lB4 (by omega) g0 ((nU.cell (p:=w6) (aZ (by show w6.heap.size<(w6.alloc (aM #[ai d] 9)).heap.size;simp) ie.size)).trans ((ie.cell (p:=w6) (by show w6.heap.size<(w6.alloc (aM #[ai d] 9)).heap.size;simp)).trans (by simp))) g3 g4 ((Below.bK (Below.bK E3 ((Grown.refl w6).alloc _).below) (Below.bK ie nU)).cell (p:=w5) (by show w5.heap.size<(w5.alloc (aM #[aa ag k] 3)).heap.size;simp) |>.trans (by simp)) ⟨by simp,by simp⟩ ⟨p1,p2,St.on p3 (cA.dB _ nU),p4⟩
     ·have hne:(ae != 0)=aI:=by simpa using hz
      go_wp2_with (first|(go_at_call 70;refine(rR _ HX.out).mono ?_;clear rR;rintro r w5 ⟨rfl,fA⟩;have hF:au X X (w5.alloc (aM #[aa ag R] 3)):=Below.bK fA ((Grown.refl w5).alloc _).below;obtain⟨u0,u3,u5,u4⟩:=EF.out _ hF;have Yn:au W W (w5.alloc (aM #[aa ag R] 3)):=Below.bK HX.out hF)|(go_at_call 71;refine(xF _ Yn).mono ?_;clear xF;rintro r w6 ⟨d,rfl,hd,E3⟩;have Vn:au X X (w6.alloc (aM #[ai d] 9)):=Below.bK hF (Below.bK E3 ((Grown.refl w6).alloc _).below);obtain⟨v0,v3,v5,v4⟩:=EF.out _ Vn;have Cm:au W W (w6.alloc (aM #[ai d] 9)):=Below.bK HX.out Vn;have Pd:=VM _ Cm d hd;clear VM;have HD:ax (d.data.toList=q):=hd;clear hd)|(go_at_call 72;refine Pd.mono ?_;clear Pd;rintro r w7 ⟨y,lo,pl,cl,yn,ln,rfl,ie,H7⟩));go_ret2;rw[HE.1,aW (by simp),aW (show ¬ R<0 by omega),aW (by simp)];exact cF.no _ hz (Below.bK Cm (Below.bK ie ((Grown.refl w7).alloc _).below))
    ·have hne:(e != 0)=aI:=by simpa using mL
     go_wp2_with (first|(go_at_call 70;refine(rR _ HX.out).mono ?_;clear rR;rintro r w5 ⟨rfl,fA⟩;have hF:au X X (w5.alloc (aM #[aa ag R] 3)):=Below.bK fA ((Grown.refl w5).alloc _).below;obtain⟨u0,u3,u5,u4⟩:=EF.out _ hF;have Yn:au W W (w5.alloc (aM #[aa ag R] 3)):=Below.bK HX.out hF)|(go_at_call 71;refine(xF _ Yn).mono ?_;clear xF;rintro r w6 ⟨d,rfl,hd,E3⟩;have Vn:au X X (w6.alloc (aM #[ai d] 9)):=Below.bK hF (Below.bK E3 ((Grown.refl w6).alloc _).below);obtain⟨v0,v3,v5,v4⟩:=EF.out _ Vn;have Cm:au W W (w6.alloc (aM #[ai d] 9)):=Below.bK HX.out Vn;have Pd:=VM _ Cm d hd;clear VM;have HD:ax (d.data.toList=q):=hd;clear hd));go_ret2;rw[HE.1,aW (by simp),aW (show ¬ R<0 by omega),aY mL];exact cF.no _ mL Cm
theorem cF.parts{s:Sy}{err:aF}{s':Sy}{Y:aw}(hB:au W W Y)(h:cF aS S s L err s' an Y r w'):∃ v,r=aK (aL #[v,aa ag err])/\ax (cF aS S s L err s' an W (aK (aL #[v,aa ag err])) w'):=by obtain⟨v,e,fC,h2⟩:=h;exact⟨v,e,v,rfl,Below.bK hB fC,h2⟩
theorem CB.parts{s:Sy}{s':Sy}{Y:aw}(hB:au W W Y)(h:CB aS S s L s' an Y r w'):∃ v,r=aK v/\ax (cF aS S s L 0 s' an W (aK (aL #[v,aa ag 0])) w'):=by obtain⟨g,cap,e,fC,h2,h3⟩:=h;exact⟨_,e,_,rfl,Below.bK hB fC,fun _=>⟨g,cap,rfl,h2,h3⟩⟩
namespace PM
noncomputable def Sy.rV(s:Sy)(ow k:aE)(ck cn cm:aF)(cx:aA)(ca:Bool)(j:aE)(op:qI)(f:Fl):aF × Sy × An:=
 if ck=2 then(0,(s.dL (ow*8+k) aN).dQ op.cM { f with b9:=LK.KM.fu f.b9 ow },gz 0 ⟨#[]⟩)
 else if ck=13 then(if s.eF ow<0 then 5 else 0,s.dL (ow*8+(s.eF ow).toNat) (aO j),gz (s.eF ow) ⟨#[]⟩)
 else if ck=5 then(o5 cn,s.jw j { op with pos:=cn },gz 0 ⟨#[]⟩)
 else if ck=14 then((fK aH f.b9 ⟨ow,cn,cm,ca⟩).1,s.dQ op.cM { f with b9:=(fK aH f.b9 ⟨ow,cn,cm,ca⟩).2 },gz 0 ⟨#[]⟩)
 else if ck=15 then((fK aI f.b9 ⟨ow,cn,cm,ca⟩).1,s.dQ op.cM { f with b9:=(fK aI f.b9 ⟨ow,cn,cm,ca⟩).2 },gz 0 ⟨#[]⟩)
 else if ck=3 then(ss op cn,s.jw j { op with pos:=op.pos+(mP (s.cQ f) op.pos cn).size },gz (mP (s.cQ f) op.pos cn).size (mP (s.cQ f) op.pos cn))
 else if ck=4 then(s.sA op f cx,s.wo j op f cx,gz cx.size ⟨#[]⟩)
 else(s.nV op f cn,s.eT op.cM f (fI (s.cQ f) cn),gz 0 ⟨#[]⟩)
structure Sy.ia (s:Sy) (n j:aE) (op:qI) (f:Fl):Prop where
 l6:s.fds n=aO j
 gX:s.bJ[j]?=aO op
 hfl:s.bh[op.cM]?=aO f
def Sy.Calm(s:Sy):Prop:=∀ n j op f,s.ia n j op f->0<=op.pos/\op.pos<=1000/\f.bm.size<=80/\(s.cQ f).size<=100/\f.b9.length<=1000
end PM
theorem Jg{s:Sy}(h:bV aS W S s L)(hg:Gl aS W)(o k:aE)(zg:o<4)(Ej:k<8)(ck cn cm:aF)(cp ct cx:aA)(ca:Bool)(hx:cx.size<=140737488355328)(j:aE)(op:qI)(f:Fl)(hl:s.ia (o*8+k) j op f)(hc:s.Calm):ay aP 47 #[aj (aO S),ar #[aa ag ck,aa ag o,aa ag k,aa ag cn,aa ag cm,ai cp,ai ct,ai cx,aq ca]] W (fun r w'=>cF aS S s L (s.rV o k ck cn cm cx ca j op f).1 (s.rV o k ck cn cm cx ca j op f).2.1 (s.rV o k ck cn cm cx ca j op f).2.2 W r w'):=by
 obtain⟨l6,gX,hf⟩:=hl;obtain⟨td,D0,x6,qF,Ka⟩:=hc _ _ _ _ ⟨l6,gX,hf⟩;obtain⟨X,hX⟩:=o7 (W.alloc (aM #[aa ag ck,aa ag o,aa ag k,aa ag cn,aa ag cm,ai cp,ai ct,ai cx,aq ca] 51))
 have mg:au W W X:=by rw[<- hX];exact((Grown.refl W).alloc _).below
 have eD:aS<=W.heap.size:=bc h.aS.1 (bM h.lt);have hk:=h.bB mg;have DY:=hg.bB (mg.mono eD);obtain⟨k0,k1,k2,k3,k4,k5,k6,k7,k8⟩:=(show Hb W X [(W.heap.size,_)]from hX▸(Hb.nil W).add _).c9;have c3:=hk.fd (k:=o*8+k) (by omega);have c3:X.cell? ⟨S,3+o*8+k,aN⟩=aO (aj (aO ⟨L.ob j,0,aN⟩)):=by rw[dh,l6]at *;exact c3
 have YR:(o:aF)<4:=by omega
 have YJ:(k:aF)<8:=by omega
 have d1:decide ((k:aF)<0)=aH:=by simp
 have d2:decide ((8:aF)<=(k:aF))=aH:=by simpa using YJ
 have HX:ax (_=X):=hX;have vK:=(aQ.1 gX).1;have HB:ax (au W W X):=mg;by_cases e2:ck=2
 ·subst e2
  have hF:=fun Y (hY:au X.heap.size X Y)=>Oi (hk.bB hY) o k j o op f zg Ej l6 gX hf Ka
  have HV:ax (s.rV o k 2 cn cm cx ca j op f=s.rV o k 2 cn cm cx ca j op f):=rfl;rw[show s.rV o k 2 cn cm cx ca j op f=_ from by unfold Sy.rV;rw[aY rfl]];clear h hg hk DY gX hf l6 hX mg hc vK;go_enter func47,ntmps47;go_wp2;rw[HX.out];go_quiet (fail);go_wp2;go_quiet (fail);go_wp2;go_quiet (fail);go_wp2_with (go_at_call 88;refine(hF _ (cG (aR _ _) _)).mono ?_;clear hF;intro r w5 hS;obtain⟨v,rfl,HS⟩:=hS.parts (W:=W) (Below.bK HB.out (cG (aR _ _) _));clear hS);go_ret2;exact HS.out
 by_cases e13:ck=13
 ·subst e13
  have hF:=fun Y (hY:au X.heap.size X Y)=>KH (hk.bB hY) o j zg vK
  have HV:ax (s.rV o k 13 cn cm cx ca j op f=s.rV o k 13 cn cm cx ca j op f):=rfl;rw[show s.rV o k 13 cn cm cx ca j op f=_ from by unfold Sy.rV;rw[aW (by decide),aY rfl]];generalize (if s.eF o<0 then(5:aF)else 0)=fe at hF ⊢;clear h hg hk DY gX hf l6 hX mg hc vK;go_enter func47,ntmps47;go_wp2;rw[HX.out];go_quiet (fail);go_wp2;go_quiet (fail);go_wp2;go_quiet (fail);go_wp2_with (go_at_call 89;refine(hF _ (cG (aR _ _) _)).mono ?_;clear hF;intro r w5 hS;obtain⟨v,rfl,HS⟩:=hS.parts (W:=W) (Below.bK HB.out (cG (aR _ _) _));clear hS);go_ret2;exact HS.out
 by_cases e5:ck=5
 ·subst e5
  have hF:=fun Y (hY:au X.heap.size X Y)=>TK (hk.bB hY) cn j op gX
  have HV:ax (s.rV o k 5 cn cm cx ca j op f=s.rV o k 5 cn cm cx ca j op f):=rfl;rw[show s.rV o k 5 cn cm cx ca j op f=_ from by unfold Sy.rV;rw[aW (by decide),aW (by decide),aY rfl]];clear h hg hk DY gX hf l6 hX mg hc vK;go_enter func47,ntmps47;go_wp2;rw[HX.out];go_quiet (fail);go_wp2;go_quiet (fail);go_wp2;go_quiet (fail);go_wp2_with (go_at_call 90;refine(hF _ (cG (aR _ _) _)).mono ?_;clear hF;intro r w5 hS;obtain⟨v,rfl,HS⟩:=hS.parts (W:=W) (Below.bK HB.out (cG (aR _ _) _));clear hS);go_ret2;exact HS.out
 by_cases e14:ck=14
 ·subst e14
  have hF:=fun Y (hY:au X.heap.size X Y)=>Bw (hk.bB hY) 92 (enters_of func92 (by kernel_rfl) rfl) aH (fun Y l x p cap a b c=>LK.TV l x p cap Y a b c) j op f gX hf Ka 14 o k cn cm cp ct cx ca
  have HV:ax (s.rV o k 14 cn cm cx ca j op f=s.rV o k 14 cn cm cx ca j op f):=rfl;rw[show s.rV o k 14 cn cm cx ca j op f=_ from by unfold Sy.rV;rw[aW (by decide),aW (by decide),aW (by decide),aY rfl]];clear h hg hk DY gX hf l6 hX mg hc vK;go_enter func47,ntmps47;go_wp2;rw[HX.out];go_quiet (fail);go_wp2;go_quiet (fail);go_wp2;go_quiet (fail);go_wp2_with (go_at_call 91;refine(hF _ (cG (aR _ _) _)).mono ?_;clear hF;intro r w5 hS;obtain⟨v,rfl,HS⟩:=hS.parts (W:=W) (Below.bK HB.out (cG (aR _ _) _));clear hS);go_ret2;exact HS.out
 by_cases e15:ck=15
 ·subst e15
  have hF:=fun Y (hY:au X.heap.size X Y)=>Bw (hk.bB hY) 93 (enters_of func93 (by kernel_rfl) rfl) aI (fun Y l x p cap a b c=>LK.RE l x p cap Y a b c) j op f gX hf Ka 15 o k cn cm cp ct cx ca
  have HV:ax (s.rV o k 15 cn cm cx ca j op f=s.rV o k 15 cn cm cx ca j op f):=rfl;rw[show s.rV o k 15 cn cm cx ca j op f=_ from by unfold Sy.rV;rw[aW (by decide),aW (by decide),aW (by decide),aW (by decide),aY rfl]];clear h hg hk DY gX hf l6 hX mg hc vK;go_enter func47,ntmps47;go_wp2;rw[HX.out];go_quiet (fail);go_wp2;go_quiet (fail);go_wp2;go_quiet (fail);go_wp2_with (go_at_call 91;refine(hF _ (cG (aR _ _) _)).mono ?_;clear hF;intro r w5 hS;obtain⟨v,rfl,HS⟩:=hS.parts (W:=W) (Below.bK HB.out (cG (aR _ _) _));clear hS);go_ret2;exact HS.out
 by_cases e3:ck=3
 ·subst e3
  have hF:=fun Y (hY:au X.heap.size X Y)=>Tr (hk.bB hY) j op f cn gX hf td D0 x6 qF
  have HV:ax (s.rV o k 3 cn cm cx ca j op f=s.rV o k 3 cn cm cx ca j op f):=rfl;rw[show s.rV o k 3 cn cm cx ca j op f=_ from by unfold Sy.rV;rw[aW (by decide),aW (by decide),aW (by decide),aW (by decide),aW (by decide),aY rfl]];clear h hg hk DY gX hf l6 hX mg hc vK;go_enter func47,ntmps47;go_wp2;rw[HX.out];go_quiet (fail);go_wp2;go_quiet (fail);go_wp2;go_quiet (fail);go_wp2_with (go_at_call 94;refine(hF _ (cG (aR _ _) _)).mono ?_;clear hF;intro r w5 hS;obtain⟨v,rfl,HS⟩:=hS.parts (W:=W) (Below.bK HB.out (cG (aR _ _) _));clear hS);go_ret2;exact HS.out
 by_cases e4:ck=4
 ·subst e4
  have hF:=fun Y (hY:au X.heap.size X Y)=>GQ (hk.bB hY) (DY.bB (hY.mono (bc eD mg.size))) j op f cx hx gX hf td D0 x6 qF
  have HV:ax (s.rV o k 4 cn cm cx ca j op f=s.rV o k 4 cn cm cx ca j op f):=rfl;rw[show s.rV o k 4 cn cm cx ca j op f=_ from by unfold Sy.rV;rw[aW (by decide),aW (by decide),aW (by decide),aW (by decide),aW (by decide),aW (by decide),aY rfl]];clear h hg hk DY gX hf l6 hX mg hc vK;go_enter func47,ntmps47;go_wp2;rw[HX.out];go_quiet (fail);go_wp2;go_quiet (fail);go_wp2;go_quiet (fail);go_wp2_with (go_at_call 95;refine(hF _ (cG (aR _ _) _)).mono ?_;clear hF;intro r w5 hS;obtain⟨v,rfl,HS⟩:=hS.parts (W:=W) (Below.bK HB.out (cG (aR _ _) _));clear hS);go_ret2;exact HS.out
 have hF:=fun Y (hY:au X.heap.size X Y)=>MF (hk.bB hY) (DY.bB (hY.mono (bc eD mg.size))) j op f cn gX hf x6 qF
 rw[show s.rV o k ck cn cm cx ca j op f=_ from by unfold Sy.rV;rw[aW e2,aW e13,aW e5,aW e14,aW e15,aW e3,aW e4]];have q2:(ck == 2)=aH:=by simpa using e2
 have q13:(ck == 13)=aH:=by simpa using e13
 have q5:(ck == 5)=aH:=by simpa using e5
 have q14:(ck == 14)=aH:=by simpa using e14
 have q15:(ck == 15)=aH:=by simpa using e15
 have q3:(ck == 3)=aH:=by simpa using e3
 have q4:(ck == 4)=aH:=by simpa using e4
 clear h hg hk DY gX hf l6 hX mg hc vK e2 e13 e5 e14 e15 e3 e4;go_enter func47,ntmps47;go_wp2;rw[HX.out];go_quiet (fail);go_wp2;go_quiet (fail);go_wp2;go_quiet (fail);go_wp2_with (go_at_call 96;refine(hF _ (cG (aR _ _) _)).mono ?_;clear hF;intro r w5 hS;obtain⟨v,rfl,HS⟩:=hS.parts (W:=W) (Below.bK HB.out (cG (aR _ _) _));clear hS);go_ret2;exact HS.out
theorem Az{s s':Sy}(h:bV aS W S s L)(o:aE)(zg:o<4)(ck cf cn cm:aF)(cp ct cx:aA)(ca:Bool)(hf:cf<0\/¬ cf<0/\8<=cf\/∃ k:aE,cf=k/\k<8/\s.fds (o*8+k)=aN):ay aP 47 #[aj (aO S),ar #[aa ag ck,aa ag o,aa ag cf,aa ag cn,aa ag cm,ai cp,ai ct,ai cx,aq ca]] W (cF aS S s L 6 s' an W):=by
 have hb:=(Hb.nil W).add (aM #[aa ag ck,aa ag o,aa ag cf,aa ag cn,aa ag cm,ai cp,ai ct,ai cx,aq ca] 51);generalize hX:W.alloc _=X at hb;have HX:ax (_=X):=hX;have HB:ax (au W W X):=hb.low;obtain⟨k0,k1,k2,k3,k4,k5,k6,k7,k8⟩:=hb.c9;have YR:(o:aF)<4:=by omega
 have l6:=fun k hk=>(h.bB hb.low).fd (k:=o*8+k) hk
 clear h hb hX;rcases hf with hf|⟨O2,hf⟩|⟨k,rfl,Ej,e⟩
 case' inl=>have d1:decide (cf<0)=aI:=by simpa using hf
 case' inr.inl=>
  have d1:decide (cf<0)=aH:=by simpa using O2
  have d2:decide (8<=cf)=aI:=by simpa using hf
 case' inr.inr=>
  have c3:X.cell? ⟨S,3+o*8+k,aN⟩=aO (aj aN):=by have:=l6 k (by omega);rw[e,<- dh]at this;exact this
  have YJ:(k:aF)<8:=by omega
  have d1:decide ((k:aF)<0)=aH:=by simp
  have d2:decide ((8:aF)<=(k:aF))=aH:=by simpa using YJ
  clear e
 all_goals
  clear l6;go_enter func47,ntmps47;go_wp2;rw[HX.out];go_quiet (fail);go_wp2;go_quiet (fail);go_wp2;go_ret2;exact cF.no _ (by decide) (Below.bK HB.out (cG (cG (aR _ _) _) _))
namespace PM
def oT:An:=gz 0 ⟨#[]⟩
noncomputable def Sy.sF(s:Sy)(ow:aE)(ck cf cn cm:aF)(cx:aA)(ca:Bool):aF × Sy × An:=
 if cf<0\/8<=cf then(6,s,oT)else match s.fds (ow*8+cf.toNat)with
  | none=>(6,s,oT)
  | some j=>match s.bJ[j]? with
   | none=>(6,s,oT)
   | some op=>match s.bh[op.cM]? with
    | none=>(6,s,oT)
    | some f=>s.rV ow cf.toNat ck cn cm cx ca j op f
end PM
theorem LN{s:Sy}(h:bV aS W S s L)(hg:Gl aS W)(hc:s.Calm)(o:aE)(zg:o<4)(ck cf cn cm:aF)(cp ct cx:aA)(ca:Bool)(hx:cx.size<=140737488355328):ay aP 47 #[aj (aO S),ar #[aa ag ck,aa ag o,aa ag cf,aa ag cn,aa ag cm,ai cp,ai ct,ai cx,aq ca]] W (fun r w'=>cF aS S s L (s.sF o ck cf cn cm cx ca).1 (s.sF o ck cf cn cm cx ca).2.1 (s.sF o ck cf cn cm cx ca).2.2 W r w'):=by
 unfold Sy.sF;by_cases h1:cf<0
 ·rw[aY (.inl h1)];exact Az h o zg ck cf cn cm cp ct cx ca (.inl h1)
 by_cases h2:8<=cf
 ·rw[aY (.inr h2)];exact Az h o zg ck cf cn cm cp ct cx ca (.inr (.inl ⟨h1,h2⟩))
 rw[aW (by omega)];obtain⟨k,rfl⟩:∃ k:aE,cf=k:=⟨cf.toNat,by omega⟩
 have Ej:k<8:=by omega
 rw[show((k:aF)).toNat=k from rfl];cases l6:s.fds (o*8+k)with
 | none=>exact Az h o zg ck k cn cm cp ct cx ca (.inr (.inr ⟨k,rfl,Ej,l6⟩))
 | some j =>have hj:=h.qo _ _ l6;have gX:s.bJ[j]?=aO s.bJ[j]:=aU hj;have hfl:=h.pV _ (jb hj);have R7:s.bh[s.bJ[j].cM]?=aO s.bh[s.bJ[j].cM]:=aU hfl;simp only[gX,R7];exact Jg h hg o k zg Ej ck cn cm cp ct cx ca hx j _ _ ⟨l6,gX,R7⟩ hc
namespace PM
noncomputable def Sy.je(s:Sy)(c:Cl):aF × Sy × An:=
 if c.bE<1\/16<c.bE then(1,s,oT)
 else if c.owner<0\/4<=c.owner then(3,s,oT)
 else if c.bE=1 then(s.gA c.owner.toNat c.n c.bm,s.sG c.owner.toNat c.n c.bm,gz (s.eF c.owner.toNat) ⟨#[]⟩)
 else if c.bE=6 then(s.mB c.bm 2 ⟨#[]⟩,s.di (cZ s.up (s.nu c.bm 2 ⟨#[]⟩)) s.cq,oT)
 else if c.bE=10 then(s.mB c.bm 3 c.tw,s.di (cZ s.up (s.nu c.bm 3 c.tw)) s.cq,oT)
 else if c.bE=7\/c.bE=8 then(s.pE c.bE c.bm,s.Et c.bm,oT)
 else if c.bE=9 then(s.n9 c.bm c.tw,s.uM c.bm c.tw,oT)
 else if c.bE=11 then(s.ug c.bm,s,s.uf c.bm)
 else if c.bE=12 then(s.uz c.bm,s,s.wX c.bm)
 else s.sF c.owner.toNat c.bE c.fd c.n c.m c.text c.alone
structure Sy.Kg (s:Sy):Prop where
 un:(bH s.all).1=0
 calm:s.Calm
 short:∀ i∈s.cr,∀ f,s.bh[i]?=aO f->f.bm.size<=80
structure Cl.Small (c:Cl):Prop where
 bm:c.bm.size<=140737488355328
 dst:c.tw.size<=140737488355328
 text:c.text.size<=140737488355328
end PM
theorem MA{s:Sy}(h:bV aS W S s L)(hg:Gl aS W)(hf:s.Kg)(c:Cl)(hc:c.Small):ay aP 21 #[aj (aO S),ar #[aa ag c.bE, aa ag c.owner, aa ag c.fd, aa ag c.n, aa ag c.m, ai c.bm, ai c.tw, ai c.text, aq c.alone]] W (fun r w'=>cF aS S s L (s.je c).1 (s.je c).2.1 (s.je c).2.2 W r w'):=by
 obtain⟨ck,co,cf,cn,cm,cp,ct,cx,ca⟩:=c;obtain⟨hp,ht,hx⟩:=hc;unfold Sy.je;simp only at *;obtain⟨X,hX⟩:=o7 (W.alloc (aM #[aa ag ck,aa ag co,aa ag cf,aa ag cn,aa ag cm,ai cp,ai ct,ai cx,aq ca] 51))
 have HB:ax (au W W X):=by rw[<- hX];exact((Grown.refl W).alloc _).below
 have hk:=h.bB HB.out;have DY:=hg.bB (HB.mono (bc h.aS.1 (bM h.lt)));have HX:ax (_=X):=hX;clear hX;by_cases tH:ck<1\/16<ck
 ·rw[aY tH]
  clear h hg hf hk DY;rcases tH with e|e
  case' inr=>have e':¬ ck<1:=by omega
  all_goals
   go_enter func21,ntmps21;go_wp2_with fail;go_ret2;rw[HX.out];exact cF.no _ (by decide) HB.out
 rw[aW tH];by_cases ho:co<0\/4<=co
 ·rw[aY ho]
  obtain⟨A1,Nt⟩:=not_or.1 tH;clear h hg hf hk DY;rcases ho with e|e
  case' inr=>have e':¬ co<0:=by omega
  all_goals
   go_enter func21,ntmps21;go_wp2_with fail;go_ret2;rw[HX.out];exact cF.no _ (by decide) HB.out
 rw[aW ho];obtain⟨o,rfl⟩:∃ o:aE,co=o:=⟨co.toNat,by omega⟩
 have zg:o<4:=by omega
 have YR:(o:aF)<4:=by omega
 rw[show((o:aF)).toNat=o from rfl];by_cases e1:ck=1
 case' pos =>rw[aY e1];subst e1;have hF:=JP hk DY hf.un o (by omega) 1 cf cn cm cp ct cx ca (by unfold maxLen;omega)
 case' neg=>
  rw[aW e1];by_cases e6:ck=6
  case' pos =>rw[aY e6];subst e6;have hF:=M6 hk DY cp 2 ⟨#[]⟩ (by unfold maxLen;omega) (by decide)
  case' neg=>
   rw[aW e6];by_cases e10:ck=10
   case' pos =>rw[aY e10];subst e10;have hF:=M6 hk DY cp 3 ct (by unfold maxLen;omega) (by unfold maxLen;omega)
   case' neg=>
    rw[aW e10];by_cases e7:ck=7\/ck=8
    case' pos =>have hF:=Ey hk DY ck o cf cn cm cp ct cx ca (by unfold maxLen;omega) hf.short e7;rw[aY e7];rcases e7 with rfl|rfl
    case' neg=>
     rw[aW e7];by_cases e9:ck=9
     case' pos =>rw[aY e9];subst e9;have hF:=Ez hk DY cp ct (by unfold maxLen;omega) (by unfold maxLen;omega) hf.short
     case' neg=>
      rw[aW e9];by_cases e11:ck=11
      case' pos =>rw[aY e11];subst e11;have hF:=JO hk DY cp (by unfold maxLen;omega)
      case' neg=>
       rw[aW e11];by_cases e12:ck=12
       case' pos =>rw[aY e12];subst e12;have hF:=TS hk DY cp (by unfold maxLen;omega)
       case' neg =>rw[aW e12];have hF:=LN hk DY hf.calm o zg ck cf cn cm cp ct cx ca hx;obtain⟨A1,Nt⟩:=not_or.1 tH;obtain⟨e7,e8⟩:=not_or.1 e7;generalize s.sF o ck cf cn cm cx ca=R at hF ⊢;replace e1:=mf e1;replace e6:=mf e6;replace e10:=mf e10;replace e7:=mf e7;replace e8:=mf e8;replace e9:=mf e9;replace e11:=mf e11;replace e12:=mf e12
 all_goals
  clear h hg hf hk DY ho tH;go_enter func21,ntmps21;go_wp2_with ((first|go_at_call 41|go_at_call 42|go_at_call 43|go_at_call 44|go_at_call 45|go_at_call 46|go_at_call 47);rw[HX.out];refine hF.mono ?_;clear hF;intro r w5 hS;obtain⟨v,rfl,HS⟩:=hS.parts HB.out;clear hS);go_ret2;exact HS.out
namespace PM
def km(e:aF):An:=⟨e,0,⟨#[]⟩,[]⟩
noncomputable def Sy.anL(s:Sy)(c:Cl):Sy × An:=if(s.je c).1=0 then(s.je c).2 else(s,km (s.je c).1)
end PM
theorem OB(sp:aE->Prop)(W:aw)(e:aF):xz sp W (km e) (ar #[aa ag e,aa ag 0,ai ⟨#[]⟩,ah aN 0 0]):=⟨aN,0,[],rfl,rfl,aV _,fun _=>rfl,fun _ _=>.inl rfl⟩
theorem xz.on{sp:aE->Prop}{v:az}(h:xz sp W an v)(hk:cA sp W W'):xz sp W' an v:=by obtain⟨p,c,bs,e,h1,h2,h3,h4⟩:=h;exact⟨p,c,bs,e,h1,h2,h3,h4.on hk⟩
theorem CD{W1 w4:aw}{s s':Sy}{L1 L4:im}{R:aE}{a b c d:az}(h:bV aS W S s L)(h1:bV aS W1 S s L1)(fg:au W W W1)(hR:W<=R)(Yk:R<W1)(tJ:∀ b,L1.ex b↔b=R\/L.ex b)(ho1:L1.ob=L.ob)(VB:L1.fb=L.fb)(kV:W1.heap[R]?=aO (aM #[aa ag 0,aa ag 0,ai ⟨#[]⟩,ah aN 0 0] 38))(h4:bV aS w4 S s' L4)(Nk:au aS W1 w4)(hx4:∀ b,L1.ex b->L4.ex b)(C5:cA (rv S s L1) W1 w4)(Qz:∀ b,Sp S s' L4 b->Sp S s L1 b\/W1.heap.size<=b)(hA:xz (Sp S s' L4) w4 an (ar #[a,b,c,d])):ki aS S s L s' an W (aK (ar #[a,b,c,d])) ((((w4.setCell R a).setCell ⟨R,1,aN⟩ b).setCell ⟨R,2,aN⟩ c).setCell ⟨R,3,aN⟩ d):=by
 have Gk:L4.ex R:=hx4 R ((tJ R).2 (.inl rfl));have hnR:¬ rv S s L1 R:=by
  rintro(e|⟨j,hj,e⟩|⟨i,hi,e⟩)
  ·have:=h.lt;omega
  ·rw[ho1]at e;have:=h.Cs hj;omega
  ·rw[VB]at e;have:=h.BL hi;omega
 have hb:=(C5.block R Yk hnR).trans kV;obtain⟨k1,k2⟩:=h4.anL Gk hb a b c d;have hbW:aS<=W.heap.size:=bc h.aS.1 (bM h.lt);have hkA:cA (Sp S s' L4) w4 ((((w4.setCell R a).setCell ⟨R,1,aN⟩ b).setCell ⟨R,2,aN⟩ c).setCell ⟨R,3,aN⟩ d):=(((cA.set (.inl (.inr Gk)) _ _ _).trans (cA.set (.inl (.inr Gk)) _ _ _)).trans (cA.set (.inl (.inr Gk)) _ _ _)).trans (cA.set (.inl (.inr Gk)) _ _ _);have xu:=fg.size;refine⟨_,L4,rfl,k1,hA.on hkA,(fg.mono hbW).trans (Nk.trans k2),fun b hb=>hx4 b ((tJ b).2 (.inr hb)),⟨bc xu (bc C5.size (by simp[World.setCell])),fun x hx hn=>?_⟩,fun b hb=>?_⟩
 ·have hne:∀ (Y:aw) (i:aE) (v:az),(Y.setCell ⟨R,i,aN⟩ v).heap[x]?=Y.heap[x]?:=fun Y i v=>cI _ _ _ _ (by show x≠R;omega)
  rw[hne,hne,hne,hne];refine(C5.block x (by omega) (fun hm=>hn ?_)).trans (fg.block x hx);rcases hm with e|⟨j,hj,e⟩|⟨i,hi,e⟩
  ·exact .inl e
  ·rw[ho1]at e;exact .inr (.inl ⟨j,hj,e⟩)
  ·rw[VB]at e;exact .inr (.inr ⟨i,hi,e⟩)
 ·rcases Qz b hb with((e|hx)|⟨j,hj,e⟩|⟨i,hi,e⟩)|hl
  ·exact .inl (.inl (.inl e))
  ·rcases(tJ b).1 hx with e|hx
   ·right;omega
   ·exact .inl (.inl (.inr hx))
  ·rw[ho1]at e;exact .inl (.inr (.inl ⟨j,hj,e⟩))
  ·rw[VB]at e;exact .inl (.inr (.inr ⟨i,hi,e⟩))
  ·right;omega
theorem Ex{s:Sy}{err:aF}{s':Sy}(h:cF aS S s L err s' an W r W')(he:err=0):∃ g cap,r=aK (aL #[.func (.func g) #[] cap,aa ag 0])/\au W W W'/\(∀ args w,(callFunc g args).run aP w=.ok (.enter g args) w)/\ay aP g cap W' (ki aS S s L s' an W'):=by obtain⟨v,e,hB,h2⟩:=h;obtain⟨g,cap,rfl,h3,h4⟩:=h2 he;subst he;exact⟨g,cap,e,hB,h3,h4⟩
theorem Im{s:Sy}{s':Sy}(h:ki aS S s L s' an W r W'):∃ (p:aC aJ) (c n:aE),r=aK (ar #[aa ag an.err,aa ag an.n,ai an.text,ah p n c])/\ax (ki aS S s L s' an W (aK (ar #[aa ag an.err,aa ag an.n,ai an.text,ah p n c])) W'):=by obtain⟨v,L',e,h1,h2,h3⟩:=h;obtain⟨p,c,bs,e2,h4⟩:=h2;subst e2;exact⟨p,c,bs.length,e,_,L',rfl,h1,⟨p,c,bs,rfl,h4⟩,h3⟩
theorem Ku{s:Sy}(h:bV aS W S s L)(hg:Gl aS W)(hf:s.Kg)(c:Cl)(hc:c.Small):ay aP 10 #[aj (aO S),ar #[aa ag c.bE, aa ag c.owner, aa ag c.fd, aa ag c.n, aa ag c.m, ai c.bm, ai c.tw, ai c.text, aq c.alone]] W (ki aS S s L (s.anL c).1 (s.anL c).2 W):=by
 obtain⟨W0,rQ⟩:=o7 (W.alloc (aM #[aa ag c.bE, aa ag c.owner, aa ag c.fd, aa ag c.n, aa ag c.m, ai c.bm, ai c.tw, ai c.text, aq c.alone] 51))
 have ph:au W W W0:=by rw[<- rQ];exact((Grown.refl W).alloc _).below
 have Da:W0.heap.size=W.heap.size+1:=by rw[<- rQ];simp
 obtain⟨W1,vJ⟩:=o7 (W0.alloc (aM #[aa ag 0,aa ag 0,ai ⟨#[]⟩,ah aN 0 0] 38))
 have aa1:au W0 W0 W1:=by rw[<- vJ];exact((Grown.refl W0).alloc _).below
 have fg:=Below.bK ph aa1;have xu:W1.heap.size=W.heap.size+2:=by rw[<- vJ,cE,Da]
 have kV:W1.heap[W.heap.size+1]?=aO (aM #[aa ag 0,aa ag 0,ai ⟨#[]⟩,ah aN 0 0] 38):=by rw[<- vJ,<- Da];exact heap_alloc_last W0 _
 have h1:=(h.bB ph).aside (aM #[aa ag 0,aa ag 0,ai ⟨#[]⟩,ah aN 0 0] 38);rw[vJ,Da]at h1;have eD:aS<=W.heap.size:=bc h.aS.1 (bM h.lt);have hF:=MA h1 (hg.bB (fg.mono eD)) hf c hc;obtain⟨L1,lj⟩:=ee ({ L with ex:=fun b=>b=W.heap.size+1\/L.ex b }:im)
 rw[<- lj]at h1 hF;have HA:ax (bV aS W S s L/\bV aS W1 S s L1/\au W W W1/\W.heap.size+1<W1.heap.size/\(∀ b,L1.ex b↔b=W.heap.size+1\/L.ex b)/\L1.ob=L.ob/\L1.fb=L.fb/\W1.heap[W.heap.size+1]?=aO (aM #[aa ag 0,aa ag 0,ai ⟨#[]⟩,ah aN 0 0] 38)):=⟨h,h1,fg,by omega,fun b=>by rw[lj],by rw[lj],by rw[lj],kV⟩
 obtain⟨⟨b0,b1,b2,b3⟩,z0,z1,z2,z3⟩:=cK kV;have HW:ax ((W.alloc (aM #[aa ag c.bE, aa ag c.owner, aa ag c.fd, aa ag c.n, aa ag c.m, ai c.bm, ai c.tw, ai c.text, aq c.alone] 51)).alloc (aM #[aa ag 0,aa ag 0,ai ⟨#[]⟩,ah aN 0 0] 38)=W1):=by rw[rQ];exact vJ
 obtain⟨ck,co,cf,cn,cm,cp,ct,cx,ca⟩:=c;simp only at hF HW ⊢;have HV:ax ((s.anL ⟨ck,co,cf,cn,cm,cp,ct,cx,ca⟩)=if(s.je ⟨ck,co,cf,cn,cm,cp,ct,cx,ca⟩).1=0 then(s.je ⟨ck,co,cf,cn,cm,cp,ct,cx,ca⟩).2 else(s,km (s.je ⟨ck,co,cf,cn,cm,cp,ct,cx,ca⟩).1)):=rfl;generalize s.anL ⟨ck,co,cf,cn,cm,cp,ct,cx,ca⟩=A at HV ⊢;generalize s.je ⟨ck,co,cf,cn,cm,cp,ct,cx,ca⟩=R at HV hF;obtain⟨er,s',an⟩:=R;simp only at HV hF;rw[<- HW.out]at hF;clear h h1 hg hf ph aa1 fg Da xu kV rQ vJ lj hc b0 b1 b2 b3 z0 z1 z2 z3;by_cases hz:er=0
 ·subst hz
  go_enter func10,ntmps10;go_wp2_with (go_at_call 21;refine hF.mono ?_;clear hF;intro r w3 hS;obtain⟨g,cap,rfl,eG,eg,hD⟩:=Ex hS (by trivial);clear hS;rw[HW.out]at eG;have H3:ax (au W1 W1 w3/\w3.heap[W.heap.size+1]?=aO (aM #[aa ag 0,aa ag 0,ai ⟨#[]⟩,ah aN 0 0] 38)):=⟨eG,(eG.block _ HA.2.2.2.1).trans HA.2.2.2.2.2.2.2⟩;clear eG);go_wp2_with (go_at_fn g;refine uC hD ?_;clear hD;intro r w4 hS;obtain⟨p,k,n,rfl,HD⟩:=Im hS;clear hS;have Nk:w4.heap[W.heap.size+1]?=aO (aM #[aa ag 0,aa ag 0,ai ⟨#[]⟩,ah aN 0 0] 38):=(by obtain⟨_,L4,_,_,_,_,_,hk,_⟩:=HD.out;refine(hk.block _ (aX.1 H3.2).1 ?_).trans H3.2;rintro(e|⟨j,hj,e⟩|⟨i,hi,e⟩);(have:=HA.1.lt;omega);(rw[HA.2.2.2.2.2.1]at e;have:=HA.1.Cs hj;omega);(rw[HA.2.2.2.2.2.2.1]at e;have:=HA.1.BL hi;omega));obtain⟨⟨b0,b1,b2,b3⟩,z0,z1,z2,z3⟩:=cK Nk;clear Nk);refine ba (v:=ar #[aa ag an.err,aa ag an.n,ai an.text,ah p n k]) (by simp[results,results10,go_sem,b0,b1,b2,b3]) rfl ?_;rw[HV.out,aY (by trivial)];obtain⟨h,h1,fg,hl,hx,ho,xZ,kV⟩:=HA.out;obtain⟨v,L4,e,q1,q2,q3,q4,q5,q6⟩:=HD.out;injection e with e
  subst e;have zf:aS<=W1.heap.size:=bc h1.aS.1 (bM h1.lt);exact CD h h1 fg (by omega) hl hx ho xZ kV q1 ((H3.1.mono zf).trans q3) q4 ((cA.dB _ H3.1).trans q5) (fun b hb=>(q6 b hb).imp id (fun hl=>bc H3.1.size hl)) q2
 ·have hne:(er != 0)=aI:=by simpa using hz
  go_enter func10,ntmps10;go_wp2_with (go_at_call 21;refine hF.mono ?_;clear hF;intro r w3 hS;obtain⟨v,rfl,eG,_⟩:=hS;rw[HW.out]at eG;have H3:ax (au W1 W1 w3/\w3.heap[W.heap.size+1]?=aO (aM #[aa ag 0,aa ag 0,ai ⟨#[]⟩,ah aN 0 0] 38)):=⟨eG,(eG.block _ HA.2.2.2.1).trans HA.2.2.2.2.2.2.2⟩;clear eG;obtain⟨⟨b0,b1,b2,b3⟩,z0,z1,z2,z3⟩:=cK H3.2);refine ba (v:=ar #[aa ag er,aa ag 0,ai ⟨#[]⟩,ah aN 0 0]) (by simp[results,results10,go_sem,b0,b1,b2,b3]) rfl ?_;rw[HV.out,aW hz];obtain⟨h,h1,fg,hl,hx,ho,xZ,kV⟩:=HA.out;have zf:aS<=W1.heap.size:=bc h1.aS.1 (bM h1.lt);exact CD h h1 fg (by omega) hl hx ho xZ kV (h1.bB H3.1) (H3.1.mono zf) (fun b hb=>hb) (cA.dB _ H3.1) (fun b hb=>.inl hb) (OB _ _ _)
theorem Rl{H:aE}(h:W.heap[H]?=aO (aM #[] 88 (0,0))):W.ownsRow H 88 4 (ah (aO H) 0 0) 0 []:=
 ⟨rfl,.inr ⟨H,0,#[],rfl,aV _,h,aV _,by decide,rfl,rfl⟩⟩
theorem yr{ops:Array Oper}{o:Oper}{a:Act}{K:Act->aw->Prop}{Q:Exit->Act->aw->Prop}{E:Prop}(ly:o.guard=aN)(s x:Operand)(ho:o.op=.call { callee:=.builtin .append,args:=#[s,x],argTypes:=#[23,23] })(H:aE)(hs:a.eval s=ah (aO H) 0 0)(hh:X.heap[H]?=aO (aM #[] 88 (0,0)))(p:aC aJ)(n cap:aE)(t:aB bP)(hx:a.eval x=ah p n cap)(hn:n=t.length)(hL:bI X p t)(iR:p=aN->cap=0)(oq:n<=80)(h:∀ g c w',Own w' g c t->H<=g->au H X w'->(∀ b,b<X.heap.size->b≠H->w'.heap[b]?=X.heap[b]?)->K (a.put o.dst (ah (aO ⟨g,0,aN⟩) n c)) w'):if Region.wanted o (yielded ops a.tmps)=aI then Oper.wp aP o a X K Q else E:=by
 have hw:Region.wanted o (yielded ops a.tmps)=aI:=by simp[Region.wanted,ly]
 rw[aY hw];have gG:=Rl hh;have hH:H<=X.heap.size:=bM (aX.1 hh).1;obtain⟨i0,hi,ou,mL,mh⟩:=ue;cases p with
 | none=>
  obtain rfl:cap=0:=iR rfl;have ht:t=[]:=by
   rcases hL with h|⟨b,off,he,_⟩
   ·exact h
   ·cases he
  subst ht;obtain rfl:n=0:=hn;have agh:=run_append_owned_none (P:=aP) (w:=X) H 23 o.type 88 i0 4 underlying23 hi _ 0 [] gG;unfold Oper.wp execOp;simp only[ho,resolve,invoke,builtin,lx,my,iQ,zW,iP,Kn,hs,hx,agh];obtain⟨g,c,hv,hg,Cp⟩:=Own.pS (t:=[]) gG (by simp) rfl;simp only[ib]at hv;rw[hv];exact h g c X Cp hg (aR _ _) (fun _ _ _=>rfl)
 | some ad =>refine wp_append_own X s x 23 ho H 88 i0 _ 4 48 underlying23 hi ou mL mh rfl (by decide) _ 0 [] hs gG ad n cap (t.flatMap fy) hx (by rw[iY,hn]) (hL.flat (aR _ _)) (fun u hu=>kA hu) (by unfold maxLen;omega) (by omega) hH ?_;intro v' w' jF hg Sc;rw[fo,dD]at jF;obtain⟨g,c,hv,oP,Cp⟩:=Own.pS jF (by intro e;have:=(Sc.1 e).1;cases this) hn;rw[hv,<- hn];exact h g c w' Cp oP ((aR H X).grown hg hH (fun k hk=>by simp[Value.ownBlock]at hk;omega)) (fun b hb hne=>hg.block b hb (fun e=>hne (by simp[Value.ownBlock]at e;exact e)))
def Hj(up:aB bP)(cq:aB (aB bP))(w:aw)(r:Ending)(w':aw):Prop:=∃ (y:Lay) (lo:aB Lay) (pl:aC aJ) (cl yn ln:aE),r=aK (ar #[ah y.ad yn y.cap,ah pl ln cl])/\ax (yn=y.es.length/\ln=lo.length/\y.es=up/\lo.map (·.es)=cq/\eZ w' y lo pl cl/\au w w w'/\qC w y lo pl)
theorem lL.copy{up:aB bP}{cq:aB (aB bP)}{w:aw}{a b:az}(h:lL 0 up cq w (aK (aL #[ar #[a,b],aa ag 0])) w'):Hj up cq w (aK (ar #[a,b])) w':=by
 obtain⟨y,lo,pl,cl,e,h1⟩:=h;injection e with e
 injection e with e
 have e:=(Array.mk.inj e)
 injection e with e _
 rw[e];exact⟨y,lo,pl,cl,_,_,rfl,rfl,rfl,h1⟩
theorem EB(y:Lay)(ls:aB Lay)(pl:aC aJ)(cl:aE)(w:aw)(wM:eZ w y ls pl cl)(qg:y.es.length<=80)(rS:∀ x∈ls,x.es.length<=80)(h4:ls.length<=4):ay aP 9 #[ar #[ah y.ad y.es.length y.cap,ah pl ls.length cl]] w (Hj y.es (ls.map (·.es)) w):=by
 obtain⟨X,hX⟩:=o7 ((w.alloc (aM #[ah y.ad y.es.length y.cap,ah pl ls.length cl] 26)).alloc (aM #[ah aN 0 0,ah aN 0 0] 26))
 have mg:au w w X:=by rw[<- hX];exact((aR _ _).alloc (aV _) _).alloc (by simp) _
 have Sw:X.heap.size=w.heap.size+2:=by rw[<- hX];simp
 have tG:∀ W,au X X W->ay aP 20 #[ah pl ls.length cl] W (xM (ls.map (·.es)) W):=fun W hW=>by have h:=(wM.bB mg).bB hW;exact CL ls pl cl W h.anO (fun x hx=>⟨(h.each x hx).1.anO,(h.each x hx).2,rS x hx⟩) h4
 have bx:=nB hX;have br:=jm hX;have HU:ax (eZ w y ls pl cl/\au w w X/\(w.alloc (aM #[ah y.ad y.es.length y.cap,ah pl ls.length cl] 26)).alloc (aM #[ah aN 0 0,ah aN 0 0] 26)=X/\(∀ x∈ls,x.es.length<=80)/\y.es.length<=80/\X.heap.size=w.heap.size+2/\X.heap[w.heap.size]?=aO (aM #[ah y.ad y.es.length y.cap,ah pl ls.length cl] 26)/\X.heap[w.heap.size+1]?=aO (aM #[ah aN 0 0,ah aN 0 0] 26)):=⟨wM,mg,hX,rS,qg,Sw,bx,br⟩
 have YM:∀ W,au X X W->bI W y.ad y.es:=fun W hW=>((wM.bB mg).bB hW).up.anO
 have Y7:=wM.Wq;have q0:X.cell? w=aO (ah y.ad y.es.length y.cap):=by simp[World.cell?,bx]
 have q1:X.cell? ⟨w,1,aN⟩=aO (ah pl ls.length cl):=by simp[World.cell?,bx]
 have r0:X.cell? ⟨↑w+1,0,aN⟩=aO (ah aN 0 0):=by simp[World.cell?,br]
 have lw:w.heap.size<X.heap.size:=by omega
 have lr:w.heap.size+1<X.heap.size:=by omega
 obtain⟨yn,ku⟩:=ee y.es.length
 obtain⟨ln,ka⟩:=ee ls.length
 have HN:ax (yn=y.es.length/\ln=ls.length):=⟨ku,ka⟩
 have HX:ax ((w.alloc (aM #[ah y.ad yn y.cap,ah pl ln cl] 26)).alloc (aM #[ah aN 0 0,ah aN 0 0] 26)=X):=by rw[ku,ka];exact hX
 rw[<- ku]at q0;rw[<- ka]at q1 tG;rw[<- ku,<- ka];have SF:yn<=80:=by omega
 have n0:=World.new_ne X ⟨w,0,aN⟩ q0;have n1:=World.new_ne X ⟨↑w+1,0,aN⟩ r0;clear wM mg hX bx br ku ka Sw rS qg;have YD:True:=trivial;have YE:True:=trivial;go_enter func9,ntmps9;go_wp2;rw[HX.out];go_region_law (first
  | (refine yr rfl _ _ rfl X (by first|(simp[Act.eval];done)|fail) (by first|exact heap_alloc_last X _|fail) y.ad yn y.cap y.es (by first|(simp[Act.eval];done)|fail) HN.1 (by first|exact YM _ (((Grown.refl X).alloc _).below.drew)|fail) Y7 SF ?_;clear YD;intro g c w4 hO hg eO C5;have HO4:ax (Own w4 g c y.es/\X<=g):=⟨hO,hg⟩;have hX4:au X X w4:=(((aR _ _).alloc (aV _) _).drew).trans eO;have m1:=(hX4.cell (p:=⟨w,1,aN⟩) lw).trans q1;clear hO hg eO C5;have ab1:True:=trivial)
  | (go_simp;go_at_call 20;refine(tG _ (aR _ _).drew).mono ?_;clear tG YE;rintro r w3 ⟨⟨v8,lo,rfl,uF,Qt,BM⟩,xT⟩;obtain⟨p8,c8,Xj,_⟩:=uF.Ir;subst Xj;obtain⟨l8,Sg⟩:=ee lo.length;have QK:ax (l8=lo.length):=Sg;rw[<- Sg]at uF ⊢;clear Sg;have F3:au X X w3:=((aR _ _).drew).trans xT;have m0:=(F3.cell (p:=w) lw).trans q0;have H8:ax (gC w3 X (ah p8 l8 c8) lo/\lo.map (·.es)=ls.map (·.es)/\∀ x∈lo,qw X w3 x):=⟨uF,Qt,BM⟩;clear uF Qt BM xT;have n3:=World.new_ne w3 ⟨w,0,aN⟩ m0;have ab3:True:=trivial)
  | (go_simp;go_at_call 20;refine(tG _ (((Grown.refl X).alloc _).below.drew)).mono ?_;clear tG YE;rintro r w3 ⟨⟨v8,lo,rfl,uF,Qt,BM⟩,xT⟩;obtain⟨p8,c8,Xj,_⟩:=uF.Ir;subst Xj;obtain⟨l8,Sg⟩:=ee lo.length;have QK:ax (l8=lo.length):=Sg;rw[<- Sg]at uF ⊢;clear Sg;have F3:au X X w3:=Below.bK (((Grown.refl X).alloc _).below.drew) xT;have m0:=(F3.cell (p:=w) lw).trans q0;have H8:ax (gC w3 (X.heap.size+1) (ah p8 l8 c8) lo/\lo.map (·.es)=ls.map (·.es)/\(∀ x∈lo,qw (X.heap.size+1) w3 x)/\w3.heap[X.heap.size]?=aO (aM #[] 88)):=⟨by simpa using uF,Qt,by simpa using BM,(xT.block _ (by show X.heap.size<(X.alloc _).heap.size;simp)).trans (heap_alloc_last X _)⟩;clear uF Qt BM xT;have ab2:True:=trivial)
  | (clear ab1;go_simp;go_at_call 20;refine(tG _ hX4).mono ?_;clear tG YE;rintro r w8 ⟨⟨v8,lo,rfl,uF,Qt,BM⟩,xT⟩;obtain⟨p8,c8,Xj,_⟩:=uF.Ir;subst Xj;obtain⟨l8,Sg⟩:=ee lo.length;have QK:ax (l8=lo.length):=Sg;rw[<- Sg]at uF ⊢;clear Sg;have RR:au X X w8:=Below.bK hX4 xT;have H8:ax (gC w8 X (ah p8 l8 c8) lo/\lo.map (·.es)=ls.map (·.es)/\(∀ x∈lo,qw X w8 x)/\Own w8 g c y.es/\X<=g):=⟨uF.mono hX4.size,Qt,fun x hx=>(by obtain⟨b,e1,e2,e3⟩:=BM x hx;exact⟨b,e1,e2,bc hX4.size e3⟩),HO4.1.below xT HO4.1.lt,HO4.2⟩;clear uF Qt BM xT HO4;have k8:w8.heap[w.heap.size+1]?=aO (aM #[ah aN 0 0,ah aN 0 0] 26):=(RR.block _ lr).trans HU.2.2.2.2.2.2.2;have x0:w8.cell? ⟨↑w+1,0,aN⟩=aO (ah aN 0 0):=(by simp[World.cell?,k8]);have x1:w8.cell? ⟨↑w+1,1,aN⟩=aO (ah aN 0 0):=(by simp[World.cell?,k8]);have f0:w8.frozen? ⟨↑w+1,0,aN⟩=aH:=(by simp[World.frozen?,k8]);have f1:w8.frozen? ⟨↑w+1,1,aN⟩=aH:=(by simp[World.frozen?,k8]);have HX8:ax (au X X w8):=RR;clear RR k8)
  | (clear ab2;refine yr rfl _ _ rfl X (by first|(simp[Act.eval];done)|fail) (by first|exact H8.2.2.2|fail) y.ad yn y.cap y.es (by first|(simp[Act.eval];done)|fail) HN.1 (by first|exact YM _ F3|fail) Y7 SF ?_;clear YD;intro g c w8 hO hg eO C5;have RR:au X X w8:=F3.trans eO;have H9:ax (gC w8 X (ah p8 l8 c8) lo/\lo.map (·.es)=ls.map (·.es)/\(∀ x∈lo,qw X w8 x)/\Own w8 g c y.es/\X<=g):=⟨(H8.1.at (fun b h1 h2=>C5 b h2 (by omega))).mono (by omega),H8.2.1,fun x hx=>(by obtain⟨b,e1,e2,e3⟩:=H8.2.2.1 x hx;exact⟨b,e1,e2.bB (C5 b e2.lt (by omega)),by omega⟩),hO,hg⟩;clear H8;have H8:=H9;clear H9 hO hg eO C5;have k8:w8.heap[w.heap.size+1]?=aO (aM #[ah aN 0 0,ah aN 0 0] 26):=(RR.block _ lr).trans HU.2.2.2.2.2.2.2;have x0:w8.cell? ⟨↑w+1,0,aN⟩=aO (ah aN 0 0):=(by simp[World.cell?,k8]);have x1:w8.cell? ⟨↑w+1,1,aN⟩=aO (ah aN 0 0):=(by simp[World.cell?,k8]);have f0:w8.frozen? ⟨↑w+1,0,aN⟩=aH:=(by simp[World.frozen?,k8]);have f1:w8.frozen? ⟨↑w+1,1,aN⟩=aH:=(by simp[World.frozen?,k8]);have HX8:ax (au X X w8):=RR;clear RR k8)
  | (clear ab3;refine yr rfl _ _ rfl w3 (by first|(simp[Act.eval];done)|fail) (by first|exact heap_alloc_last w3 _|fail) y.ad yn y.cap y.es (by first|(simp[Act.eval];done)|fail) HN.1 (by first|exact YM _ (Below.bK F3 ((Grown.refl w3).alloc _).below)|fail) Y7 SF ?_;clear YD;intro g c w8 hO hg eO C5;have xT:au w3 w3 w8:=((aR _ _).alloc (aV _) _).trans eO;have RR:au X X w8:=Below.bK F3 xT;have H9:ax (gC w8 X (ah p8 l8 c8) lo/\lo.map (·.es)=ls.map (·.es)/\(∀ x∈lo,qw X w8 x)/\Own w8 g c y.es/\X<=g):=⟨H8.1.below xT,H8.2.1,fun x hx=>(by obtain⟨b,e1,e2,e3⟩:=H8.2.2 x hx;exact⟨b,e1,e2.below xT e2.lt,e3⟩),hO,bc F3.size hg⟩;clear H8;have H8:=H9;clear H9 hO hg eO C5 xT;have k8:w8.heap[w.heap.size+1]?=aO (aM #[ah aN 0 0,ah aN 0 0] 26):=(RR.block _ lr).trans HU.2.2.2.2.2.2.2;have x0:w8.cell? ⟨↑w+1,0,aN⟩=aO (ah aN 0 0):=(by simp[World.cell?,k8]);have x1:w8.cell? ⟨↑w+1,1,aN⟩=aO (ah aN 0 0):=(by simp[World.cell?,k8]);have f0:w8.frozen? ⟨↑w+1,0,aN⟩=aH:=(by simp[World.frozen?,k8]);have f1:w8.frozen? ⟨↑w+1,1,aN⟩=aH:=(by simp[World.frozen?,k8]);have HX8:ax (au X X w8):=RR;clear RR k8))
 all_goals
  go_wp2;obtain⟨s0,s1⟩:=zD (ah (aO g) yn c) (ah p8 l8 c8) x0 x1;refine ba (v:=ar #[ah (aO g) yn c,ah p8 l8 c8]) (by simp[results,results9,go_sem,s0,s1]) rfl ?_;obtain⟨u1,u2,u3,u4,u5,u6,u7,u8⟩:=HU.out;obtain⟨a1,a2,a3,a4,a5⟩:=H8.out;have hR:gC w8 X (ah p8 l8 c8) lo:=a1;exact(TW (ls:=ls) (by rw[u3,<- u6];exact HX8.out) a4 (by omega) hR (by omega) a2 a3 u1.up.fits u5 u4 (fun x hx=>(u1.each x hx).1.fits) HN.1 QK.out _ _).copy
