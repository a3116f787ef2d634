import Derived.Test.YtjnkfelecopbjaaGreatDoorYA11
open Go.Proofs.Tryz
open Go.Value renaming int->aa,slice->ah,string->ai,pointer->aj,bool->aq,agg->ar,tuple->aL
open Go.IntKind renaming i64->ag
open Go.RowKit renaming Below->au
open Go renaming World->aw,Aside->ax,Calls->ay,Value->az,Addr->aJ
open _root_ renaming ByteArray->aA,List->aB,Option->aC,UInt8->aD,Nat->aE,Int->aF
open Bool renaming false->aH,true->aI
open Go.Ending renaming returned->aK
open Go.Obj renaming cells->aM
open Option renaming none->aN,some->aO
open Go.Proofs.Tryz renaming prog->aP
set_option linter.all false
set_option maxHeartbeats 4000000
set_option maxRecDepth 100000
namespace Go.Proofs.YtjnkfelecopbjaaGreatDoor
open Go.RowKit PM Go.Sort
variable{L:im}{S aS:aE}{W X:aw}{l:aB LK.Lk}{cq:aB (aB bP)}{q:aA}{up:aB bP}
theorem Rb{Z w3:aw}{s:Sy}{L1:im}{i fb g c:aE}{f:Fl}(h:bV aS Z S s L1)(hf:s.bh[i]?=aO f)(xZ:fb=L1.fb i)(hB:au Z Z w3)(hg:Z<=g)(hO:LK.Own w3 g c l):∃ L3,bV aS (w3.setCell ⟨fb,2,aN⟩ (ah (aO g) l.length c)) S (s.dQ i { f with b9:=l }) L3/\L3.ex=L1.ex/\L3.ob=L1.ob/\L3.fb=L1.fb:=by subst xZ;have h3:=h.bB hB;have hb:=(nh (h3.tY i f hf) (ah (aO g) l.length c)).2.2;refine⟨_,h3.cM (f':={ f with b9:=l }) hf (aO ⟨g,0,aN⟩,c) (cA.set (sp:=(·=L1.fb i)) rfl _ 2 _) hb (St.on (M3.st hO.anO (fun b off s' e qt=>?_)) (cA.set (.inr (.inr ⟨i,(aQ.1 hf).1,rfl⟩)) _ 2 _)) hO.len nofun,rfl,rfl,rfl⟩;cases e;have:=(h.od qt).2;omega
theorem Vf{Z:aw}{s:Sy}{L1:im}{i B:aE}{f:Fl}{a:Array az}(h:bV aS Z S s L1)(hf:s.bh[i]?=aO f)(hb:Z.heap[B]?=aO (aM a 38))(e:B=L1.fb i):False:=by have:=h.tY i f hf;rw[<- e,hb]at this;simp at this
theorem Ve{s:Sy}(h:bV aS X S s L)(B0 B1 B2 B3 o k i:aE)(q:aF)(f:Fl)(zg:o<4)(Ej:k<8)(hf:s.bh[i]?=aO f)(Ka:f.b9.length<=1000)(zO:X.cell? B0=aO (aj (aO ⟨S,3+o*8,aN⟩)))(si:X.cell? B1=aO (aa ag k))(uX:X.cell? B2=aO (aj (aO ⟨L.fb i,0,aN⟩)))(zf:X.cell? B3=aO (aa ag q))(WV:¬ Sp S s L B0)(zM:¬ Sp S s L B1)(rB:¬ Sp S s L B2)(pL:¬ Sp S s L B3):ay aP 137 #[aj (aO B0),aj (aO B1),aj (aO B2),aj (aO B3)] X (ki aS S s L ((s.dL (o*8+k) aN).dQ i { f with b9:=LK.KM.fu f.b9 q }) (gz 0 ⟨#[]⟩) X):=by
 have a0:=bj (aM #[aa ag 0,aa ag 0,ai ⟨#[]⟩,ah aN 0 0] 38) zO;have a1:=bj (aM #[aa ag 0,aa ag 0,ai ⟨#[]⟩,ah aN 0 0] 38) si;have He:(k:aF)<8:=by omega
 have c3:=h.fd (k:=o*8+k) (by omega);have c3:X.cell? ⟨S,3+o*8+k,aN⟩=aO (aj ((s.fds (o*8+k)).map fun j=>⟨L.ob j,0,aN⟩)):=by rw[dh];exact c3
 have f3:=h.EW (3+o*8+k);have a3:=bj (aM #[aa ag 0,aa ag 0,ai ⟨#[]⟩,ah aN 0 0] 38) c3;have gm:=h.lt;have n1:¬ S=X.heap.size:=by omega
 have n2:¬ X=S:=by omega
 have n3:¬ S=B0:=fun e=>WV (.inl (.inl e.symm))
 have n4:¬ S=B1:=fun e=>zM (.inl (.inl e.symm))
 have HS:ax (bV aS X S s L):=h;go_enter func137,ntmps137;go_wp2;go_region;have h1:=h.number (k:=o*8+k) (by omega) aN nofun (aj aN) rfl;rw[<- dh]at h1;have mL:(X.setCell ⟨S,3+o*8+k,aN⟩ (aj aN)).heap.size=X.heap.size:=by simp[World.setCell]
 have h2:=(h1.aside (aM #[aa ag 0,aa ag 0,ai ⟨#[]⟩,ah aN 0 0] 38)).bB (aR _ _).drew;rw[mL]at h2;obtain⟨L1,lj⟩:=ee ({ L with ex:=fun b=>b=X.heap.size\/L.ex b }:im)
 rw[<- lj]at h2;have tJ:L1.ex=(fun b=>b=X.heap.size\/L.ex b):=by rw[lj]
 have xZ:L1.fb=L.fb:=by rw[lj]
 have O7:L1.lp=L.lp:=by rw[lj]
 have EF:ax (L1.ob=L.ob):=by show L1.ob=L.ob;rw[lj]
 have nN:ax (au aS X ((X.setCell ⟨S,3+o*8+k,aN⟩ (aj aN)).alloc (aM #[aa ag 0,aa ag 0,ai ⟨#[]⟩,ah aN 0 0] 38)).drew):=by have h1:=(aR aS X).setCell (p:=⟨S,3+o*8+k,aN⟩) HS.aS.1 (aj aN);exact(h1.alloc (bc (bc HS.aS.1 (bM gm)) h1.size) _).drew
 have XG:ax (cA (rv S s L) X ((X.setCell ⟨S,3+o*8+k,aN⟩ (aj aN)).alloc (aM #[aa ag 0,aa ag 0,ai ⟨#[]⟩,ah aN 0 0] 38)).drew):=(cA.set (.inl rfl) _ _ _).trans (cA.dB _ (((Grown.refl _).alloc _).below.drew));have kV:(((X.setCell ⟨S,3+o*8+k,aN⟩ (aj aN)).alloc (aM #[aa ag 0,aa ag 0,ai ⟨#[]⟩,ah aN 0 0] 38)).drew).heap[X.heap.size]?=aO (aM #[aa ag 0,aa ag 0,ai ⟨#[]⟩,ah aN 0 0] 38):=by
  have:=heap_alloc_last (X.setCell ⟨S,3+o*8+k,aN⟩ (aj aN)) (aM #[aa ag 0,aa ag 0,ai ⟨#[]⟩,ah aN 0 0] 38)
  rwa [mL]at this
 have bk:∀ b,b<X.heap.size->¬ Sp S s L b->(((X.setCell ⟨S,3+o*8+k,aN⟩ (aj aN)).alloc (aM #[aa ag 0,aa ag 0,ai ⟨#[]⟩,ah aN 0 0] 38)).drew).heap[b]?=X.heap[b]?:=fun b hb hn=>
  (((Grown.refl _).alloc _).below.block b (by rw[mL];exact hb)).trans (cI _ _ _ _ (fun e=>hn (.inl (.inl e))))
 have l2:=bg uX;have l3:=bg zf;simp only at l2 l3;have t2:=(gY (bk B2 l2 rB) 0).trans uX;have t3:=(gY (bk B3 l3 pL) 0).trans zf;generalize ((X.setCell ⟨S,3+o*8+k,aN⟩ (aj aN)).alloc (aM #[aa ag 0,aa ag 0,ai ⟨#[]⟩,ah aN 0 0] 38)).drew=Z at *;clear bk a0 a1 a3 c3 f3 zO si uX zf h1 mL;obtain⟨⟨_,_,g2⟩,_,_,ZQ⟩:=h2.tX (i:=i) (f:=f) hf;rw[xZ,O7]at g2;rw[xZ]at ZQ;have hd:=h2.data.now.b9 i f hf;rw[O7]at hd;have hlv:=fun Y (hY:au Z.heap.size Z Y)=>LK.Po f.b9 q (L.lp i).1 (L.lp i).2 Y (hd.1.bB hY) hd.2.2 (by have:=Ka;omega)
 obtain⟨n,hn⟩:=ee f.b9.length
 have HN:ax (n=f.b9.length):=hn;rw[<- hn]at g2 hlv;have H2:ax (bV aS Z S (s.dL (o*8+k) aN) L1/\L1.ex=(fun b=>b=X.heap.size\/L.ex b)/\L1.fb=L.fb/\L1.lp=L.lp/\Z.heap[X.heap.size]?=aO (aM #[aa ag 0,aa ag 0,ai ⟨#[]⟩,ah aN 0 0] 38)/\s.bh[i]?=aO f):=⟨h2,tJ,xZ,O7,kV,hf⟩
 obtain⟨fb,Yy⟩:=ee (L.fb i)
 have HFB:ax (fb=L.fb i):=Yy;rw[<- Yy]at t2 g2 ZQ;generalize (L.lp i).1=lp1 at g2 hlv;generalize (L.lp i).2=lp2 at g2 hlv;clear h2 tJ xZ O7 kV hd hn h hf lj WV zM rB pL Yy l2 l3 Ka;have lf:=bg g2;have lb:=bg t2;simp only at lf lb;go_wp2;go_region_with (first|(go_at_call 138;refine(hlv _ (aR _ _).drew).mono ?_;clear hlv;rintro r w3 ⟨g,c,rfl,hg,hO,eG⟩;have HO:ax (Z<=g/\LK.Own w3 g c (LK.KM.fu f.b9 q)/\au Z Z w3):=⟨hg,hO,((aR _ _).drew).trans eG⟩;have u2:=(HO.2.2.cell (p:=⟨fb,2,aN⟩) lf).trans g2;have u3:=(HO.2.2.frozen (p:=⟨fb,2,aN⟩) lf).trans ZQ;have u4:=(HO.2.2.cell (p:=B2) lb).trans t2;clear hO hg eG));all_goals
  have H3:ax (∃ L3,bV aS (w3.setCell ⟨fb,2,aN⟩ (ah (aO g) (LK.KM.fu f.b9 q).length c)) S ((s.dL (o*8+k) aN).dQ i { f with b9:=LK.KM.fu f.b9 q }) L3/\L3.ex=L1.ex/\L3.ob=L1.ob/\L3.fb=L1.fb):=Rb H2.1 H2.2.2.2.2.2 (HFB.trans (by rw[H2.2.2.1])) HO.2.2 HO.1 HO.2.1;have kV:(w3.setCell ⟨fb,2,aN⟩ (ah (aO g) (LK.KM.fu f.b9 q).length c)).heap[X.heap.size]?=aO (aM #[aa ag 0,aa ag 0,ai ⟨#[]⟩,ah aN 0 0] 38):=(cI _ _ _ _ (fun e=>Vf H2.1 H2.2.2.2.2.2 H2.2.2.2.2.1 (e.trans (HFB.trans (by rw[H2.2.2.1]))))).trans ((HO.2.2.block _ (aX.1 H2.2.2.2.2.1).1).trans H2.2.2.2.2.1);have kT:ax (au aS X (w3.setCell ⟨fb,2,aN⟩ (ah (aO g) (LK.KM.fu f.b9 q).length c))):=(nN.trans (HO.2.2.mono (bc H2.1.aS.1 (bM H2.1.lt)))).setCell (p:=⟨fb,2,aN⟩) (by show aS<=fb;rw[HFB.out,<- H2.2.2.1];exact H2.1.aS.2.2 i (aQ.1 H2.2.2.2.2.2).1) _;have HKY:ax (cA (rv S s L) X (w3.setCell ⟨fb,2,aN⟩ (ah (aO g) (LK.KM.fu f.b9 q).length c))):=(XG.trans (cA.dB _ HO.2.2)).trans (cA.set (.inr (.inr ⟨i,(aQ.1 H2.2.2.2.2.2).1,HFB.out⟩)) _ 2 _);generalize w3.setCell ⟨fb,2,aN⟩ (ah (aO g) (LK.KM.fu f.b9 q).length c)=Y at *;obtain⟨⟨d0,d1,d2,d3⟩,z0,z1,z2,z3⟩:=cK kV;have HK:ax (Y.heap[X.heap.size]?=aO (aM #[aa ag 0,aa ag 0,ai ⟨#[]⟩,ah aN 0 0] 38)):=kV;clear kV u2 u3 u4 g2 ZQ t2 t3 HO;go_wp2;refine ba (v:=ar #[aa ag 0,aa ag 0,ai ⟨#[]⟩,ah aN 0 0]) (by simp[results,results137,go_sem,d0,d1,d2,d3]) rfl ?_;obtain⟨L3,q1,q2,q3,q4⟩:=H3.out;exact Mid.fin (L':=L3) ⟨q1,⟨q3.trans EF.out,q4.trans H2.2.2.1,fun b=>(by rw[q2,H2.2.1])⟩,kT.out,HKY.out,HK.out⟩ ⟨rfl,by simp[Sy.dQ,Sy.dL]⟩ _ _ _ _ (fun W=>pG _ _ _ _)
theorem Hy{a b c:Obj}(h:((W.alloc a).alloc b).alloc c=X):X.heap[W.heap.size]?=aO a/\X.heap[W.heap.size+1]?=aO b/\X.heap[W.heap.size+2]?=aO c:=by
 have h2:au ((W.alloc a).alloc b).heap.size ((W.alloc a).alloc b) X:=by rw[<- h];exact((Grown.refl _).alloc c).below
 have hs:((W.alloc a).alloc b).heap.size=W.heap.size+2:=by simp
 refine⟨(h2.block _ (by omega)).trans (nB rfl),(h2.block _ (by omega)).trans (jm rfl),?_⟩;rw[<- h];have:=heap_alloc_last ((W.alloc a).alloc b) c
 rwa [hs]at this
def CB(aS S:aE)(s:Sy)(L:im)(s':Sy)(an:An)(W:aw)(r:Ending)(W':aw):Prop:=∃ g cap,r=aK (.func (.func g) #[] cap)/\au W W W'/\(∀ args w,(callFunc g args).run aP w=.ok (.enter g args) w)/\ay aP g cap W' (ki aS S s L s' an W')
theorem Oi{s:Sy}(h:bV aS W S s L)(o k j:aE)(q:aF)(op:qI)(f:Fl)(zg:o<4)(Ej:k<8)(l6:s.fds (o*8+k)=aO j)(gX:s.bJ[j]?=aO op)(hf:s.bh[op.cM]?=aO f)(Ka:f.b9.length<=1000):ay aP 88 #[aj (aO ⟨S,3+o*8,aN⟩),aa ag k,aa ag q] W (CB aS S s L ((s.dL (o*8+k) aN).dQ op.cM { f with b9:=LK.KM.fu f.b9 q }) (gz 0 ⟨#[]⟩) W):=by
 obtain⟨X,hX⟩:=o7 (((W.alloc (aM #[aj (aO ⟨S,3+o*8,aN⟩)] 133)).alloc (aM #[aa ag k] 3)).alloc (aM #[aa ag q] 3))
 have hB:au W W X:=by rw[<- hX];exact(((aR _ _).alloc (aV _) _).alloc (by simp) _).alloc (by simp;omega) _
 have Sw:X.heap.size=W.heap.size+3:=by rw[<- hX];simp
 obtain⟨k0,k1,k2⟩:=Hy hX;have b0:X.cell? W=aO (aj (aO ⟨S,3+o*8,aN⟩)):=by simp[World.cell?,k0]
 have b1:X.cell? ⟨↑W+1,0,aN⟩=aO (aa ag k):=by simp[World.cell?,k1]
 have b2:X.cell? ⟨↑W+2,0,aN⟩=aO (aa ag q):=by simp[World.cell?,k2]
 clear k0 k1 k2;have hk:=h.bB hB;have He:(k:aF)<8:=by omega
 have c3:=hk.fd (k:=o*8+k) (by omega);have c3:X.cell? ⟨S,3+o*8+k,aN⟩=aO (aj (aO ⟨L.ob j,0,aN⟩)):=by rw[dh];rw[l6]at c3;exact c3
 obtain⟨⟨c4,_,_⟩,_⟩:=hk.oW gX;have n1:=World.new_ne X ⟨S,3+o*8+k,aN⟩ c3;have n2:=World.new_ne X ⟨L.ob j,0,aN⟩ c4;have n3:=World.new_ne X ⟨W,0,aN⟩ b0;have n4:=World.new_ne X ⟨↑W+1,0,aN⟩ b1;have HA:ax (bV aS W S s L/\au W W X/\s.bh[op.cM]?=aO f/\f.b9.length<=1000/\X.cell? ⟨↑W+2,0,aN⟩=aO (aa ag q)/\X.cell? W=aO (aj (aO ⟨S,3+o*8,aN⟩))/\X.cell? ⟨↑W+1,0,aN⟩=aO (aa ag k)/\X.heap.size=W.heap.size+3):=⟨h,hB,hf,Ka,b2,b0,b1,Sw⟩
 have HX:ax (((W.alloc (aM #[aj (aO ⟨S,3+o*8,aN⟩)] 133)).alloc (aM #[aa ag k] 3)).alloc (aM #[aa ag q] 3)=X):=hX;clear h hB hf Ka hk l6 gX b2 hX;go_enter func88,ntmps88;go_wp2;rw[HX.out];go_region_held3 (fun w'=>w'.cell? W=aO (aj (aO ⟨S,3+o*8,aN⟩))/\w'.cell? ⟨↑W+1,0,aN⟩=aO (aa ag k)/\w'.cell? ⟨S,3+o*8+k,aN⟩=aO (aj (aO ⟨L.ob j,0,aN⟩))/\w'.cell? ⟨L.ob j,0,aN⟩=aO (aj (aO ⟨L.fb op.cM,0,aN⟩))) (go_keep) (fail);go_wp2;go_ret;obtain⟨h,hB,hf,Ka,d2,d0,d1,hs⟩:=HA.out;have RL:au X X (X.alloc (aM #[aj (aO ⟨L.fb op.cM,0,aN⟩)] 78)).drew:=(((Grown.refl X).alloc _).below).drew;have G6:=Below.bK hB RL;refine⟨_,_,rfl,G6,enters_of func137 (by kernel_rfl) rfl,?_⟩;have j5:(X.alloc (aM #[aj (aO ⟨L.fb op.cM,0,aN⟩)] 78)).drew.heap[W.heap.size+3]?=aO (aM #[aj (aO ⟨L.fb op.cM,0,aN⟩)] 78):=by
  have:=heap_alloc_last X (aM #[aj (aO ⟨L.fb op.cM,0,aN⟩)] 78)
  rwa [hs]at this
 exact Ve (h.bB G6) W.heap.size (W.heap.size+1) (W.heap.size+3) (W.heap.size+2) o k op.cM q f zg Ej hf Ka ((RL.cell (p:=W) (by show W.heap.size<_;omega)).trans d0) ((RL.cell (p:=⟨↑W+1,0,aN⟩) (by show W.heap.size+1<_;omega)).trans d1) (by simp[World.cell?,j5]) ((RL.cell (p:=⟨↑W+2,0,aN⟩) (by show W.heap.size+2<_;omega)).trans d2) (h.tW (by omega)) (h.tW (by omega)) (h.tW (by omega)) (h.tW (by omega))
def zV(aS S:aE)(s s':Sy)(L:im)(X:aw)(r:Ending)(X':aw):Prop:=r=aK (aL #[])/\∃ L':im,bV aS X' S s' L'/\L'.ob=L.ob/\L'.fb=L.fb/\L'.ex=L.ex/\au aS X X'/\cA (fun b=>b=S\/Fb s L b) X X'
theorem acv{s:Sy}(h:bV aS X S s L):ay aP 194 #[] X (zV aS S s s L X):=by have HS:ax (bV aS X S s L):=h;clear h;go_enter func194,ntmps194;go_wp2;refine sM (eC rfl _ _ _) rfl ?_;exact⟨rfl,L,HS.out,rfl,rfl,rfl,aR _ _,cA.refl _ _⟩
theorem acw{s:Sy}(h:bV aS X S s L)(Bt Bf i:aE)(t:aA)(f:Fl)(hf:s.bh[i]?=aO f)(J5:X.cell? Bt=aO (ai t))(Nl:X.cell? Bf=aO (aj (aO ⟨L.fb i,0,aN⟩))):ay aP 195 #[aj (aO Bt),aj (aO Bf)] X (zV aS S s (s.dQ i { f with text:=t }) L X):=by
 have HS:ax (bV aS X S s L/\s.bh[i]?=aO f):=⟨h,hf⟩
 obtain⟨⟨_,c1,_⟩,_,g1,_⟩:=h.tX hf;clear h hf;go_enter func195,ntmps195;go_wp2;refine sM (eC rfl _ _ _) rfl ?_;obtain⟨h,hf⟩:=HS.out;have hi:=(aQ.1 hf).1;have hb:=(nh (h.tY i f hf) (ai t)).1;exact⟨rfl,L,h.Rt (f':={ f with text:=t }) hf rfl (cA.set (sp:=(·=L.fb i)) rfl _ 1 _) hb,rfl,rfl,rfl,(aR _ _).setCell (p:=⟨L.fb i,1,aN⟩) (h.aS.2.2 i hi) _,cA.set (.inr ⟨i,hi,rfl⟩) _ 1 _⟩
theorem acx{s:Sy}(h:bV aS X S s L)(hg:Gl aS X)(B0 B1:aE)(zO:X.cell? B0=aO (aj (aO S)))(y:Lay)(lo:aB Lay)(pl:aC aJ)(cl:aE)(si:uE X B1 y lo pl cl)(hU:St (Sp S s L) X (fun X=>eZ X y lo pl cl))(h0:(bH (y.es::lo.map (·.es))).1=0):ay aP 196 #[aj (aO B0),aj (aO B1)] X (zV aS S s (s.di y.es (lo.map (·.es))) L X):=by have kQ:=pU h hg y lo pl cl hU h0;obtain⟨c0,c1⟩:=si;generalize y.es.length=yn at c0 kQ;generalize lo.length=ln at c1 kQ;clear h hg hU h0;go_enter func196,ntmps196;go_wp2_with (go_at_call 74;refine kQ.mono ?_;clear kQ;rintro r X2 ⟨rfl,hS⟩;have HS:ax (M5 aS S (s.di y.es (lo.map (·.es))) L X X2):=hS;clear hS);refine sM (eC rfl _ _ _) rfl ?_;obtain⟨L2,hA,e1,e2,e3,hB,hk⟩:=HS.out;exact⟨rfl,L2,hA,e1,e2,e3,hB,hk.pw fun b hb=>.inl hb⟩
theorem SU{s:Sy}(h:bV aS X S s L)(Bl Bo j:aE)(o:qI)(f:Fl)(ho:s.bJ[j]?=aO o)(hf:s.bh[o.cM]?=aO f)(l:aB LK.Lk)(p:aC aJ)(n c:aE)(hn:n=l.length)(xV:X.cell? Bl=aO (ah p n c))(F8:X.cell? Bo=aO (aj (aO ⟨L.ob j,0,aN⟩)))(hl:St (Sp S s L) X (fun Y=>LK.bI Y p l))(hc:l.length<=c)(hp:p=aN->c=0)(hNl:¬ L.fb o.cM=Bl)(Yh:¬ L.fb o.cM=Bo):ay aP 141 #[aj (aO Bl),aj (aO Bo)] X (ki aS S s L (s.dQ o.cM { f with b9:=l }) (gz 0 ⟨#[]⟩) X):=by
 have a0:=bj (aM #[aa ag 0,aa ag 0,ai ⟨#[]⟩,ah aN 0 0] 38) xV;have a1:=bj (aM #[aa ag 0,aa ag 0,ai ⟨#[]⟩,ah aN 0 0] 38) F8;obtain⟨⟨c0,_,_⟩,_⟩:=h.oW ho;obtain⟨⟨_,_,g2⟩,_,_,fz⟩:=h.tX hf;have hi:=(aQ.1 hf).1;have hj:=(aQ.1 ho).1;have gm:=h.BL hi;have II:=h.Cs hj;have DU:=h.aS.2.2 o.cM hi;have n5:¬ L.fb o.cM=L.ob j:=fun e=>h.Zf hi hj e.symm
 obtain⟨fb,xZ⟩:=ee (L.fb o.cM)
 have HF:ax (fb=L.fb o.cM/\bV aS X S s L/\s.bJ[j]?=aO o/\s.bh[o.cM]?=aO f/\St (Sp S s L) X (fun Y=>LK.bI Y p l)/\l.length<=c/\(p=aN->c=0)/\n=l.length):=⟨xZ,h,ho,hf,hl,hc,hp,hn⟩
 rw[<- xZ]at c0 g2 fz gm DU n5 hNl Yh;have a2:=bj (aM #[aa ag 0,aa ag 0,ai ⟨#[]⟩,ah aN 0 0] 38) c0;have a3:=bj (aM #[aa ag 0,aa ag 0,ai ⟨#[]⟩,ah aN 0 0] 38) g2;have n1:¬ fb=X.heap.size:=by omega
 have n2:¬ X=fb:=by omega
 have n3:¬ L.ob j=fb:=fun e=>n5 e.symm
 clear h ho hf hl hc hp hn xZ;go_enter func141,ntmps141;go_wp2;go_region_held3 (fun w'=>w'.cell? Bl=aO (ah p n c)/\w'.cell? Bo=aO (aj (aO ⟨L.ob j,0,aN⟩))/\w'.cell? ⟨L.ob j,0,aN⟩=aO (aj (aO fb))) (go_keep) (fail);have H2:ax (∃ L2,bV aS ((X.setCell ⟨fb,2,aN⟩ (ah p n c)).alloc (aM #[aa ag 0,aa ag 0,ai ⟨#[]⟩,ah aN 0 0] 38)).drew S (s.dQ o.cM { f with b9:=l }) L2/\CC L L2 X):=by obtain⟨e,h,ho,hf,hl,hc,hp,hn⟩:=HF.out;subst e hn;have hb:=(nh (h.tY _ f hf) (ah p l.length c)).2.2;have h1:=h.cM (f':={ f with b9:=l }) hf (p,c) (cA.set (sp:=(·=L.fb o.cM)) rfl _ 2 (ah p l.length c)) hb (St.on hl (cA.set (.inr (.inr ⟨_,(aQ.1 hf).1,rfl⟩)) _ 2 _)) hc hp;exact⟨_,(h1.aside (aM #[aa ag 0,aa ag 0,ai ⟨#[]⟩,ah aN 0 0] 38)).bB (aR _ _).drew,⟨rfl,rfl,fun b=>by simp[World.setCell]⟩⟩
 have nN:ax (au aS X ((X.setCell ⟨fb,2,aN⟩ (ah p n c)).alloc (aM #[aa ag 0,aa ag 0,ai ⟨#[]⟩,ah aN 0 0] 38)).drew):=by have h1:=(aR aS X).setCell (p:=⟨fb,2,aN⟩) DU (ah p n c);exact(h1.alloc (bc (bc DU (bM gm)) h1.size) _).drew
 have XG:ax (cA (rv S s L) X ((X.setCell ⟨fb,2,aN⟩ (ah p n c)).alloc (aM #[aa ag 0,aa ag 0,ai ⟨#[]⟩,ah aN 0 0] 38)).drew):=(cA.set (.inr (.inr ⟨o.cM,(aQ.1 HF.2.2.2.1).1,HF.1⟩)) _ _ _).trans (cA.dB _ (((Grown.refl _).alloc _).below.drew));have kV:(((X.setCell ⟨fb,2,aN⟩ (ah p n c)).alloc (aM #[aa ag 0,aa ag 0,ai ⟨#[]⟩,ah aN 0 0] 38)).drew).heap[X.heap.size]?=aO (aM #[aa ag 0,aa ag 0,ai ⟨#[]⟩,ah aN 0 0] 38):=by
  have:=heap_alloc_last (X.setCell ⟨fb,2,aN⟩ (ah p n c)) (aM #[aa ag 0,aa ag 0,ai ⟨#[]⟩,ah aN 0 0] 38)
  rwa [show(X.setCell ⟨fb,2,aN⟩ (ah p n c)).heap.size=X from by simp[World.setCell]]at this
 generalize ((X.setCell ⟨fb,2,aN⟩ (ah p n c)).alloc (aM #[aa ag 0,aa ag 0,ai ⟨#[]⟩,ah aN 0 0] 38)).drew=Z at *;obtain⟨⟨d0,d1,d2,d3⟩,z0,z1,z2,z3⟩:=cK kV;have HK:ax (Z.heap[X.heap.size]?=aO (aM #[aa ag 0,aa ag 0,ai ⟨#[]⟩,ah aN 0 0] 38)):=kV;clear kV a0 a1 a2 a3 xV F8 c0 g2 fz;go_wp2;refine ba (v:=ar #[aa ag 0,aa ag 0,ai ⟨#[]⟩,ah aN 0 0]) (by simp[results,results141,go_sem,d0,d1,d2,d3]) rfl ?_;obtain⟨L2,q1,q2⟩:=H2.out;exact Mid.fin (L':=L2) ⟨q1,q2,nN.out,XG.out,HK.out⟩ ⟨rfl,by simp[Sy.dQ]⟩ _ _ _ _ (fun W=>pG _ _ _ _)
theorem aaW{s s':Sy}(h:bV aS X S s L)(hn:kO s s')(Bk:aE)(g:FuncId)(cap:Array az)(eg:∀ args w,(callFunc g args).run aP w=.ok (.enter g args) w)(kV:X.cell? Bk=aO (.func (.func g) #[] cap))(zR:ay aP g cap (X.alloc (aM #[aa ag 0,aa ag 0,ai ⟨#[]⟩,ah aN 0 0] 38)) (zV aS S s s' { L with ex:=fun b=>b=X.heap.size\/L.ex b } (X.alloc (aM #[aa ag 0,aa ag 0,ai ⟨#[]⟩,ah aN 0 0] 38)))):ay aP 152 #[aj (aO Bk)] X (ki aS S s L s' (gz 0 ⟨#[]⟩) X):=by
 have a0:=bj (aM #[aa ag 0,aa ag 0,ai ⟨#[]⟩,ah aN 0 0] 38) kV;have eD:aS<=X.heap.size:=bc h.aS.1 (bM h.lt);have HX:ax (S<X/\¬ Fb s { L with ex:=fun b=>b=X.heap.size\/L.ex b } X.heap.size/\au aS X (X.alloc (aM #[aa ag 0,aa ag 0,ai ⟨#[]⟩,ah aN 0 0] 38))/\(X.alloc (aM #[aa ag 0,aa ag 0,ai ⟨#[]⟩,ah aN 0 0] 38)).heap[X.heap.size]?=aO (aM #[aa ag 0,aa ag 0,ai ⟨#[]⟩,ah aN 0 0] 38)):=⟨h.lt,fun⟨i,hi,e⟩=>by have e:X.heap.size=L.fb i:=e;have:=h.BL hi;omega,(((Grown.refl X).alloc _).below).mono eD,heap_alloc_last X _⟩
 clear h kV;go_enter func152,ntmps152;go_wp2_with (go_at_fn g;refine(uC (by simpa using zR) ?_);clear zR;rintro r X2 ⟨rfl,L2,CW,Lf,O3,yc,fC,j4⟩;have KY:X2.heap[X.heap.size]?=aO (aM #[aa ag 0,aa ag 0,ai ⟨#[]⟩,ah aN 0 0] 38):=(j4.block _ (aX.1 HX.2.2.2).1 (by rintro(e|e);(have:=HX.1;omega);exact HX.2.1 e)).trans HX.2.2.2;have H2:ax (Mid aS S s L s' L2 X X2):=⟨CW,⟨Lf,O3,fun b=>(by rw[yc])⟩,HX.2.2.1.trans fC,cA.LF (((Grown.refl X).alloc _).below) j4 (fun b hb=>hb.imp id .inr),KY⟩;obtain⟨⟨d0,d1,d2,d3⟩,z0,z1,z2,z3⟩:=cK KY;clear CW yc fC j4 KY);refine ba (v:=ar #[aa ag 0,aa ag 0,ai ⟨#[]⟩,ah aN 0 0]) (by simp[results,results152,go_sem,d0,d1,d2,d3]) rfl ?_;exact H2.fin hn _ _ _ _ (fun W=>pG _ _ _ _)
theorem Wt{s s':Sy}(h:bV aS X S s L)(hn:kO s s')(Bk Be Bo Bt j:aE)(o:qI)(e:aF)(t:aA)(g:FuncId)(cap:Array az)(eg:∀ args w,(callFunc g args).run aP w=.ok (.enter g args) w)(ho:s.bJ[j]?=aO o)(Cp:s'.bJ[j]?=aO o)(kV:X.cell? Bk=aO (.func (.func g) #[] cap))(F7:X.cell? Be=aO (aa ag e))(F8:X.cell? Bo=aO (aj (aO ⟨L.ob j,0,aN⟩)))(J5:X.cell? Bt=aO (ai t))(hNe:¬ Sp S s L Be)(Yh:¬ Sp S s L Bo)(hNt:¬ Sp S s L Bt)(zR:ay aP g cap (X.alloc (aM #[aa ag 0,aa ag 0,ai ⟨#[]⟩,ah aN 0 0] 38)) (zV aS S s s' { L with ex:=fun b=>b=X.heap.size\/L.ex b } (X.alloc (aM #[aa ag 0,aa ag 0,ai ⟨#[]⟩,ah aN 0 0] 38)))):ay aP 151 #[aj (aO Bk),aj (aO Be),aj (aO Bo),aj (aO Bt)] X (ki aS S s L (s'.jw j { o with pos:=e }) (gz t.size ⟨#[]⟩) X):=by
 have a0:=bj (aM #[aa ag 0,aa ag 0,ai ⟨#[]⟩,ah aN 0 0] 38) kV;have eD:aS<=X.heap.size:=bc h.aS.1 (bM h.lt);have HX:ax (S<X/\¬ Fb s { L with ex:=fun b=>b=X.heap.size\/L.ex b } X.heap.size/\au aS X (X.alloc (aM #[aa ag 0,aa ag 0,ai ⟨#[]⟩,ah aN 0 0] 38))/\(X.alloc (aM #[aa ag 0,aa ag 0,ai ⟨#[]⟩,ah aN 0 0] 38)).heap[X.heap.size]?=aO (aM #[aa ag 0,aa ag 0,ai ⟨#[]⟩,ah aN 0 0] 38)/\s'.bJ[j]?=aO o/\L.ob j<X/\s.bJ[j]?=aO o):=⟨h.lt,fun⟨i,hi,e⟩=>by have e:X.heap.size=L.fb i:=e;have:=h.BL hi;omega,(((Grown.refl X).alloc _).below).mono eD,heap_alloc_last X _,Cp,h.Cs (aQ.1 ho).1,ho⟩
 have HK:ax (∀ X2,cA (fun b=>b=S\/Fb s { L with ex:=fun b=>b=X.heap.size\/L.ex b } b) (X.alloc (aM #[aa ag 0,aa ag 0,ai ⟨#[]⟩,ah aN 0 0] 38)) X2->X2.cell? Be=aO (aa ag e)/\X2.cell? Bo=aO (aj (aO ⟨L.ob j,0,aN⟩))/\X2.cell? Bt=aO (ai t)):=by
  show ∀ X2,_;intro X2 hk;have go:∀ B v,X.cell? ⟨B,0,aN⟩=aO v->¬ Sp S s L B->X2.cell? ⟨B,0,aN⟩=aO v:=fun B v hv hn=>by
   have hl:=bg hv;simp only at hl;have hB:=((Grown.refl X).alloc (aM #[aa ag 0,aa ag 0,ai ⟨#[]⟩,ah aN 0 0] 38)).below;refine(gY ((hk.block B (aZ hl hB.size) ?_).trans (hB.block B hl)) 0).trans hv;rintro(e|⟨i,hi,e⟩)
   ·exact hn (.inl (.inl e))
   ·exact hn (.inr (.inr ⟨i,hi,e⟩))
  exact⟨go _ _ F7 hNe,go _ _ F8 Yh,go _ _ J5 hNt⟩
 clear h kV F7 F8 J5 hNe Yh hNt ho Cp;go_enter func151,ntmps151;go_wp2_with (go_at_fn g;refine(uC (by simpa using zR) ?_);clear zR;rintro r X2 ⟨rfl,L2,CW,Qw,O3,yc,fC,j4⟩;obtain⟨t0,t1,t2⟩:=HK.out X2 j4;have Qw:L2.ob=L.ob:=Qw;obtain⟨⟨_,_,y2⟩,y3⟩:=CW.oW HX.2.2.2.2.1;rw[Qw]at y2 y3;have KY:X2.heap[X.heap.size]?=aO (aM #[aa ag 0,aa ag 0,ai ⟨#[]⟩,ah aN 0 0] 38):=(j4.block _ (aX.1 HX.2.2.2.1).1 (by rintro(e|e);(have:=HX.1;omega);exact HX.2.1 e)).trans HX.2.2.2.1;have n1:¬ L.ob j=X.heap.size:=(by have:=HX.2.2.2.2.2.1;omega);have n2:¬ X.heap.size=L.ob j:=(fun e=>n1 e.symm);have n3:¬ L.ob j=Bt:=(fun e=>by (rw[<- e]at t2;obtain⟨⟨y1,_,_⟩,_⟩:=CW.oW HX.2.2.2.2.1;rw[Qw,t2]at y1;cases y1));have H2:ax (bV aS X2 S s' L2/\L2.ob=L.ob/\CC L L2 X.heap.size/\au aS X X2/\X2.heap[X.heap.size]?=aO (aM #[aa ag 0,aa ag 0,ai ⟨#[]⟩,ah aN 0 0] 38)/\cA (rv S s L) X X2):=⟨CW,Qw,⟨Qw,O3,fun b=>(by rw[yc])⟩,HX.2.2.1.trans fC,KY,cA.LF (((Grown.refl X).alloc _).below) j4 (fun b hb=>hb.imp id .inr)⟩;obtain⟨⟨d0,d1,d2,d3⟩,z0,z1,z2,z3⟩:=cK KY;clear CW yc fC j4 KY);refine ba (v:=ar #[aa ag 0,aa ag t.size,ai ⟨#[]⟩,ah aN 0 0]) (by simp[results,results151,go_sem,d0,d1,d2,d3]) rfl ?_;obtain⟨q1,q0,q2,q3,q4,q5⟩:=H2.out;have gX:=HX.2.2.2.2.1;have hb:=(nh (q1.opn j o gX) (aa ag e)).2.2;rw[q0]at hb;have r1:bV aS (X2.setCell ⟨L.ob j,2,aN⟩ (aa ag e)) S (s'.jw j { o with pos:=e }) L2:=q1.Gv (o':={ o with pos:=e }) gX rfl (by rw[q0];exact cA.set (sp:=(·=L.ob j)) rfl _ 2 (aa ag e)) (by rw[q0];exact hb);have r4:((X2.setCell ⟨L.ob j,2,aN⟩ (aa ag e))).heap[X.heap.size]?=aO (aM #[aa ag 0,aa ag 0,ai ⟨#[]⟩,ah aN 0 0] 38):=(cI _ _ _ _ n2).trans q4;have DU:aS<=L.ob j:=by rw[<- q0];exact q1.aS.2.1 j (aQ.1 gX).1
 exact Mid.fin (L':=L2) ⟨r1,q2,q3.setCell (p:=⟨L.ob j,2,aN⟩) DU _,q5.trans (cA.set (.inr (.inl ⟨j,(aQ.1 HX.2.2.2.2.2.2).1,rfl⟩)) _ 2 _),r4⟩ (hn.trans ⟨by simp[Sy.jw],rfl⟩) _ _ _ _ (fun W=>pG _ _ _ _)
namespace PM
def Sy.kH(s:Sy)(way:aA):aB aD:=(dV s.bA aH way).2
noncomputable def Sy.pE(s:Sy)(bE:aF)(way:aA):aF:=
 if ¬ (dV s.bA aH way).1=0 then(dV s.bA aH way).1
 else if ¬ (bW s.bA (s.kH way)).isSome=aI then 6
 else if bE=7/\¬ ((bW s.bA (s.kH way)).getD cR).bE=2 then 10
 else if bE=8/\((bW s.bA (s.kH way)).getD cR).bE=2 then 9
 else if s.kH way=[]then 8
 else dg (bH s.all).1 (eP s.bA (s.kH way)) (ec s.up (bG s.cq).2 (fU (s.kH way))).length
noncomputable def Sy.Et(s:Sy)(way:aA):Sy:=(s.anN (fU (s.kH way))).di (ec s.up (bG s.cq).2 (fU (s.kH way))) s.cq
end PM
theorem wV(h:dg (bH (up::cq)).1 (eP (cO (up::cq)) q) (ec up (bG cq).2 q).length=0):(bH (ec up (bG cq).2 q::cq)).1=0/\cO (ec up (bG cq).2 q::cq)=pq (cO (up::cq)) q.data.toList:=by
 obtain⟨h0,h1,h2⟩:=mF.1 h;obtain⟨Uy,hz,_⟩:=gT.1 h0;have hs:cO (up::cq)=(bG (up::cq)).2:=by rw[cO,aY h0]
 have rU:bG (up::cq)=(0,cO (up::cq)):=by rw[hs];exact Ks hz rfl
 obtain⟨e1,e2⟩:=union_right (by rw[cj]at Uy ⊢;exact Uy) ((GH rU h1).2 h2);exact⟨by rw[e1],e2⟩
theorem Wc{s:Sy}(h:bV aS W S s L)(hg:Gl aS W){Wf:aw}(hB:au W W Wf){B0 B1 B2:aE}(l0:W<=B0)(l1:W<=B1)(l2:W<=B2)(zO:Wf.cell? B0=aO (aj (aO S)))(Qs:Wf.cell? B1=aO (ai q)){y:Lay}{lo:aB Lay}{pl:aC aJ}{cl:aE}(si:uE Wf B2 y lo pl cl)(hU:St (Sp S s L) Wf (fun X=>eZ X y lo pl cl))(hy:y.es=up)(hl:lo.map (·.es)=cq)(h0:(bH (up::cq)).1=0)(iL:∀ i∈s.cr,∀ f,s.bh[i]?=aO f->f.bm.size<=80):cF aS S s L 0 ((s.anN q).di up cq) (gz 0 ⟨#[]⟩) W (aK (aL #[.func (.func 80) #[] #[aj (aO B0),aj (aO B1),aj (aO B2)],aa ag 0])) Wf:=by subst hy hl;exact⟨_,rfl,hB,fun _=>⟨_,_,rfl,enters_of func80 (by kernel_rfl) rfl,Tz (h.bB hB) (hg.bB (hB.mono (bc h.aS.1 (bM h.lt)))) B0 B1 B2 zO q Qs (h.tW l0) (h.tW l1) (h.tW l2) y lo pl cl si hU h0 iL⟩⟩
theorem Ey{s:Sy}(h:bV aS W S s L)(hg:Gl aS W)(ck co cf cn cm:aF)(cp ct cx:aA)(ca:Bool)(hw:cp.size<=maxLen)(iL:∀ i∈s.cr,∀ f,s.bh[i]?=aO f->f.bm.size<=80)(tH:ck=7\/ck=8):ay aP 43 #[aj (aO S),ar #[aa ag ck,aa ag co,aa ag cf,aa ag cn,aa ag cm,ai cp,ai ct,ai cx,aq ca]] W (cF aS S s L (s.pE ck cp) (s.Et cp) (gz 0 ⟨#[]⟩) W):=by
 have xF:=zI h hg cp aH hw;have HQ:ax ((dV s.bA aH cp).2.length<=80):=jI _ _ _;have hsc:=fun Y (hY:au W.heap.size W Y)=>(h.bB hY).cells
 have mK:=fun Y (hY:au W.heap.size W Y) d hd=>zH h hY d hd _ rfl _ rfl
 have kG:∀ Y,au W W Y->∀ d:aA,d.size<=maxLen->∀ ae,dg (bH s.all).1 (eP s.bA d.data.toList) (ec s.up (bG s.cq).2 d).length=ae->ay aP 79 #[ar #[ah L.y.ad L.y.es.length L.y.cap,ah L.pl L.lo.length L.cl],ai d] Y (QW Y ae (if ae=0 then ec s.up (bG s.cq).2 d else[]) (if ae=0 then s.cq else[])):=fun Y hY d hd ae qd=>by
  obtain⟨m',O8⟩:=(hg.bB (hY.mono (bc h.aS.1 (bM h.lt)))).2;refine(B8 L.y L.lo m' L.pl L.cl d hd Y (h.bB hY).data.now.un O8).mono fun r w' k=>?_
  have k:=k.Tm;rw[h.up,h.low,show dg (bH (s.up::s.cq)).1 (eP (cO (s.up::s.cq)) d) (ec s.up (bG s.cq).2 d).length=ae from qd]at k;exact k
 have HA:ax (bV aS W S s L/\Gl aS W/\∀ i∈s.cr,∀ f,s.bh[i]?=aO f->f.bm.size<=80):=⟨h,hg,iL⟩
 generalize qd:s.pE ck cp=ae;generalize K6:s.Et cp=s';unfold Sy.pE Sy.kH at qd;unfold Sy.Et Sy.kH at K6;generalize dV s.bA aH cp.data.toList=Q at *;obtain⟨er,q⟩:=Q;have HE:ax (_=ae/\_=s'):=⟨qd,K6⟩
 generalize s.bA.length=sn at hsc mK;generalize L.y.es.length=yn at hsc kG;generalize L.lo.length=ln at hsc kG;simp only at xF HQ HE;have hS:=h.lt;clear qd K6 h hg iL;go_enter func43,ntmps43;go_upto_region 0 with fail
 go_cut [2,3]from 2 to 5 (fun s2 s3 w=>s2=aj (aO W)/\s3=aj (aO ⟨↑W+1,0,aN⟩)/\∃ l,ax (Hb W w l)/\∀ X,Hb W X l->X.cell? ⟨↑W+1,0,aN⟩=aO (aa ag ck)/\X.cell? ⟨↑W+1,5,aN⟩=aO (ai cp)/\X.cell? W=aO (aj (aO S)))
 case first=>
  go_wp2_with fail;go_meet
  case rel=>exact⟨rfl,rfl,_,Hb.two W _ _,fun X h=>⟨h.c9.1,h.c9.2.2.2.2.2.1,h.tl.c1⟩⟩
 obtain⟨rfl,rfl,l,HB,hl⟩:=hcut;obtain⟨k0,k5,b0⟩:=hl _ HB.out;go_upto_region 1 with fail
 go_cut [6,7]from 6 to 17 (fun s6 s7 w=>∃ (P:aE) (d:aA),s6=aj (aO P)/\s7=aa ag er/\ax (d.data.toList=q/\Hb W w ((P,.cells #[ai d] 9)::l)))
 case first=>
  go_wp2_with (go_at_call 71;refine(xF _ HB.low).mono ?_;clear xF;rintro r w3 ⟨d,rfl,hd,eG⟩;have H3:ax _:=fB hd (HB.on eG);clear hd eG);go_meet
  case rel=>exact⟨_,d,rfl,rfl,H3.1,H3.2.add _⟩
 obtain⟨P,d,rfl,rfl,HP⟩:=hcut;clear HB k0 k5 b0 xF;cases h0:(er != 0);rotate_left
 ·have hz:¬ er=0:=by simpa using h0
  go_wp2_with fail;go_ret2;exact cF.er HP.2.low (HE.1.symm.trans (aY hz)) hz
 have Eg:d.size<=maxLen:=by have:=HQ.out;rw[<- ix,HP.1];unfold maxLen;omega
 obtain rfl:er=0:=by simpa using h0
 replace mK:=fun Y hY=>mK Y hY d Eg
 replace kG:=fun Y hY=>kG Y hY d Eg
 replace HE:ax ((if ¬ (bW s.bA d).isSome=aI then 6 else if ck=7/\¬ ((bW s.bA d).getD cR).bE=2 then 10 else if ck=8/\((bW s.bA d).getD cR).bE=2 then 9 else if d.data.toList=[]then 8 else dg (bH s.all).1 (eP s.bA d) (ec s.up (bG s.cq).2 d).length)=ae/\(s.anN d).di (ec s.up (bG s.cq).2 d) s.cq=s'):=by have hb:fU q=d:=fV (by rw[HP.1];simp[fU]);have:=HE.out;rw[hb,<- HP.1,aW (by simp)]at this;exact this
 have iM:=fun e=>(wV (up:=s.up) (cq:=s.cq) (q:=d) e).1
 generalize (bW s.bA d).getD cR=x at mK HE;generalize (bW s.bA d).isSome=th at mK HE;obtain⟨xp,xk,xt,xo⟩:=x;have hP:=HP.2;replace HP:ax (Hb W wc _):=hP;have p0:=hP.c1;obtain⟨k0,_,b0⟩:=hl _ hP.tl;obtain⟨c0,c1,c2⟩:=hsc _ hP.low;have n0:=World.new_ne wc ⟨S,2,aN⟩ c2;have n1:=World.new_ne wc ⟨W,0,aN⟩ b0;have n2:=World.new_ne wc ⟨P,0,aN⟩ p0;clear hP h0;go_upto_region 4 with fail
 go_cut [8,9]from 21 to 29 (fun s8 s9 w=>∃ E:aE,s8=aj (aO E)/\s9=aq th/\ax (Hb W w ((E,.cells #[ai xp,aa ag xk,ai xt,aq xo] 88)::(P,.cells #[ai d] 9)::l)))
 case first=>
  go_region_held3 (fun w'=>w'.cell? W=aO (aj (aO S))/\w'.cell? ⟨S,2,aN⟩=aO (ah L.ps sn L.sc)/\w'.cell? P=aO (ai d)) (go_keep) (first
   | (go_at_call 76;refine(mK _ HP.drew.low).mono ?_;clear mK;rintro r w4 ⟨rfl,eO⟩;have H4:=HP.drew.on eO;have z0:=(hl _ H4.tl).2.2;have z1:=(hsc _ H4.low).2.2;have z2:=H4.c1;have HF:ax _:=H4;clear H4 eO)
   | (go_at_call 76;refine(mK _ (HP.add _).drew.low).mono ?_;clear mK;rintro r w4 ⟨rfl,eO⟩;have H4:=(HP.add _).drew.on eO;have z0:=(hl _ H4.tl.tl).2.2;have z1:=(hsc _ H4.low).2.2;have z2:=H4.tl.c1;obtain⟨⟨x0,x1,x2,x3⟩,f0,f1,f2,f3⟩:=cK H4.hd;have HF:ax _:=H4;clear H4 eO))
  all_goals
   go_wp2_with fail;go_meet
   case rel=>first
    | exact⟨_,rfl,rfl,HF.add _⟩
    | exact⟨_,rfl,rfl,(((HF.set 0 _).set 1 _).set 2 _).set 3 _⟩
 clear HP p0 k0 b0 c0 c1 c2 n0 n1 n2 mK;obtain⟨E,rfl,rfl,HP⟩:=hcut;have hP:=HP.out;obtain⟨⟨_,e1,_⟩,_⟩:=cK hP.hd;have p0:=hP.tl.c1;obtain⟨k0,_,b0⟩:=hl _ hP.tl.tl;clear hP;have YK:(ck == 7) = !(ck == 8):=by rcases tH with rfl|rfl<;>rfl
 generalize h8:(ck == 8)=t8 at YK;generalize h2:(xk == 2)=t2;generalize wN:d.toList.isEmpty=de;have h2':(xk != 2) = !t2:=by rw[<- h2];rfl
 have HE2:ax ((if th=aH then 6 else if t8=aH/\t2=aH then 10 else if t8=aI/\t2=aI then 9 else if de=aI then 8 else dg (bH s.all).1 (eP s.bA d) (ec s.up (bG s.cq).2 d).length)=ae):=by
  have:=HE.1;have h7:ck=7↔t8=aH:=by rw[<- h8];rcases tH with rfl|rfl<;>simp
  have h8':ck=8↔t8=aI:=by rw[<- h8];simp
  have h2':xk=2↔t2=aI:=by rw[<- h2];simp
  show _=_;simpa[h7,h8',h2',<- wN,bq]using this
 go_upto_region 13 with fail
 all_goals try (go_ret2;exact cF.er HP.low (by have:=HE2.out;clear kG hsc iM;grind) (by decide))
 all_goals
  have qd:dg (bH s.all).1 (eP s.bA d) (ec s.up (bG s.cq).2 d).length=ae:=by have:=HE2.out;clear kG hsc iM;grind
  replace kG:=fun Y hY=>kG Y hY ae qd
  have HW:ax (ae=0->(bH (ec s.up (bG s.cq).2 d::s.cq)).1=0):=fun e=>iM (qd.trans e)
  have HS:=show ax ((s.anN d).di (ec s.up (bG s.cq).2 d) s.cq=s')from HE.2
  generalize ec s.up (bG s.cq).2 d=up at kG HW HS;obtain⟨c0,c1,_⟩:=hsc _ HP.low;have n0:=World.new_ne wc ⟨S,0,aN⟩ c0;have n1:=World.new_ne wc ⟨W,0,aN⟩ b0;have n2:=World.new_ne wc ⟨P,0,aN⟩ p0;clear HE HE2 qd iM e1 k0;cases th<;>cases t8<;>cases t2<;>cases de<;>try contradiction
  go_cut [10,7]from 54 to 62 (fun s10 s7 w=>∃ (U:aE) (y:Lay) (lo:aB Lay) (pl:aC aJ) (cl yn ln:aE),s10=aj (aO U)/\s7=aa ag ae/\ax (Hb W w ((U,.cells #[ah y.ad yn y.cap,ah pl ln cl] 26)::(E,.cells #[ai xp,aa ag xk,ai xt,aq xo] 88)::(P,.cells #[ai d] 9)::l)/\(ae=0->yn=y.es.length/\ln=lo.length/\y.es=up/\lo.map (·.es)=s.cq/\St (Sp S s L) w fun X=>eZ X y lo pl cl)))
  case first=>
   go_region_held3 (fun w'=>w'.cell? W=aO (aj (aO S))/\w'.cell? S=aO (ah L.y.ad yn L.y.cap)/\w'.cell? ⟨S,1,aN⟩=aO (ah L.pl ln L.cl)/\w'.cell? P=aO (ai d)) (go_keep) (first
    | (go_at_call 79;refine(kG _ HP.drew.low).mono ?_;clear kG;rintro r w7 ⟨y,lo,pl,cl,D6,tK,rfl,H7⟩;have H4:=HP.drew.on H7.2.2.2.2.2.1;have z0:=(hl _ H4.tl.tl).2.2;obtain⟨z1,z2,_⟩:=hsc _ H4.low;have z3:=H4.tl.c1;have HF:ax _:=H4;clear H4)
    | (go_at_call 79;refine(kG _ (HP.add _).drew.low).mono ?_;clear kG;rintro r w7 ⟨y,lo,pl,cl,D6,tK,rfl,H7⟩;have H4:=(HP.add _).drew.on H7.2.2.2.2.2.1;have z0:=(hl _ H4.tl.tl.tl).2.2;obtain⟨z1,z2,_⟩:=hsc _ H4.low;have z3:=H4.tl.tl.c1;obtain⟨⟨x0,x1⟩,f0,f1⟩:=H4.c2;have HF:ax _:=H4;clear H4))
   all_goals
    go_wp2_with fail;go_meet
    case rel=>
     obtain⟨r1,r2,r3,r4,r5,r6,r7⟩:=H7.out;refine⟨_,y,lo,pl,cl,D6,tK,rfl,rfl,?_,fun e=>?_⟩
     ·first
       | exact HF.add _
       | exact(HF.set 0 _).set 1 _
     ·rw[aY e]at r3 r4
      refine⟨r1,r2,r3,r4,?_⟩;first
       | exact HA.1.un1 HP.out r5 r7 _
       | exact HA.1.un2 HP.out r5 r7 _ _
  obtain⟨U,y,lo,pl,cl,D6,tK,rfl,rfl,HF⟩:=hcut;cases h0:(ae != 0)
  ·obtain rfl:ae=0:=by simpa using h0
   go_wp2_with fail;go_ret2;obtain⟨rfl,rfl,r3,r4,r5⟩:=HF.2 (by trivial);have hF:=HF.1;rw[<- HS.out];exact Wc HA.1 HA.2.1 hF.low (aV _) hF.tl.tl.ge hF.ge (hl _ hF.tl.tl.tl).2.2 hF.tl.tl.c1 (y:=y) (lo:=lo) (pl:=pl) (cl:=cl) ⟨hF.c2.1.1,hF.c2.1.2⟩ r5 r3 r4 (HW.out (by trivial)) HA.2.2
  ·go_wp2_with fail
   go_ret2;exact cF.no _ (by simpa using h0) HF.1.low
theorem Me(ms:aB bP)(hd:ms.Pairwise fun a b=>a.p≠b.p):(iV [] ms).Perm ms/\b7 (iV [] ms):=by
 obtain⟨h1,h2⟩:=vX ms [] yA hd;refine⟨?_,h1⟩;have Ge:(iV [] ms).Nodup:=(uO h1).imp fun h e=>h (by rw[e])
 have VH:ms.Nodup:=hd.imp fun h e=>h (by rw[e])
 exact(U5 Ge VH).2 fun x=>by rw[h2 x];simp
theorem Pz{t:aB bP}{bS dst:aA}(h:tQ t bS dst):∃ l:aB bP,l.Perm (gO t bS dst)/\l.Pairwise fun a b=>¬ cmp b.p a.p<0:=by obtain⟨h1,h2⟩:=Me _ h.distinct;refine⟨_,h1,h2.imp fun{a b} C0 hc=>?_⟩;exact wP C0 hc
namespace PM
def Sy.nr(s:Sy)(fr dst:aA):aB bP:=if fr.data.toList=dst.data.toList then s.up else kh s.up (bG s.cq).2 s.bA fr dst
noncomputable def Sy.n9(s:Sy)(a b:aA):aF:=
 if ¬ (dV s.bA aH a).1=0 then(dV s.bA aH a).1
 else if ¬ (dV s.bA aH b).1=0 then(dV s.bA aH b).1
 else if s.kH a=[]\/s.kH b=[]then 8
 else dg (bH s.all).1 (ez s.bA (fU (s.kH a)) (fU (s.kH b))) (s.nr (fU (s.kH a)) (fU (s.kH b))).length
noncomputable def Sy.uM(s:Sy)(a b:aA):Sy:=(s.anS (fU (s.kH a)) (fU (s.kH b))).di (s.nr (fU (s.kH a)) (fU (s.kH b))) s.cq
end PM
theorem AD{s:Sy}{fr dst:aA}(h:dg (bH s.all).1 (ez s.bA fr dst) (s.nr fr dst).length=0):(bH (s.nr fr dst::s.cq)).1=0/\(fr.data.toList=dst.data.toList->cO (s.nr fr dst::s.cq)=s.bA)/\(fr.data.toList≠dst.data.toList->(cO (s.nr fr dst::s.cq)).Perm (gO s.bA fr dst)/\(cO (s.nr fr dst::s.cq)).Pairwise fun a b=>¬ cmp b.p a.p<0):=by
 obtain⟨h0,h1,h2⟩:=mF.1 h;obtain⟨Uy,hz,_⟩:=gT.1 h0;by_cases hq:fr.data.toList=dst.data.toList
 ·rw[Sy.nr,aY hq]
  exact⟨h0,fun _=>rfl,fun h=>absurd hq h⟩
 ·have hs:s.bA=(bG s.all).2:=by rw[Sy.bA,cO,aY h0]
  have rU:bG (s.up::s.cq)=(0,s.bA):=by rw[hs];exact Ks hz rfl
  rw[Sy.nr,aW hq]at h2 ⊢;obtain⟨l,hp,hw⟩:=Pz (wQ h1 hq);obtain⟨e1,e2⟩:=union_right (by rw[Sy.all,cj]at Uy;rw[cj];exact Uy) ((Dl rU h1 hq).2 h2 l hp hw);exact⟨by rw[e1],fun e=>absurd e hq,fun _=>by rw[e2];exact⟨hp,hw⟩⟩
theorem Wd{s:Sy}(h:bV aS W S s L)(hg:Gl aS W){Wf:aw}(hB:au W W Wf){B0 Bf B1 B2:aE}(l0:W<=B0)(lf:W<=Bf)(l1:W<=B1)(l2:W<=B2)(zO:Wf.cell? B0=aO (aj (aO S))){fr:aA}(rR:fr.size<=80)(BV:q.size<=80)(Nl:Wf.cell? Bf=aO (ai fr))(Qs:Wf.cell? B1=aO (ai q)){y:Lay}{lo:aB Lay}{pl:aC aJ}{cl:aE}(si:uE Wf B2 y lo pl cl)(hU:St (Sp S s L) Wf (fun X=>eZ X y lo pl cl))(hy:y.es=up)(hl:lo.map (·.es)=cq)(h0:(bH (up::cq)).1=0)(iL:∀ i∈s.cr,∀ f,s.bh[i]?=aO f->f.bm.size<=80):cF aS S s L 0 ((s.anS fr q).di up cq) (gz 0 ⟨#[]⟩) W (aK (aL #[.func (.func 83) #[] #[aj (aO Bf),aj (aO B1),aj (aO B0),aj (aO B2)],aa ag 0])) Wf:=by subst hy hl;exact⟨_,rfl,hB,fun _=>⟨_,_,rfl,enters_of func83 (by kernel_rfl) rfl,TB (h.bB hB) (hg.bB (hB.mono (bc h.aS.1 (bM h.lt)))) B0 B1 B2 Bf zO fr q rR BV Nl (h.tW lf) Qs (h.tW l0) (h.tW l1) (h.tW l2) y lo pl cl si hU h0 iL⟩⟩
theorem Ez{s:Sy}(h:bV aS W S s L)(hg:Gl aS W)(fp tp:aA)(hw:fp.size<=maxLen)(xw:tp.size<=maxLen)(iL:∀ i∈s.cr,∀ f,s.bh[i]?=aO f->f.bm.size<=80):ay aP 44 #[aj (aO S),ai fp,ai tp] W (cF aS S s L (s.n9 fp tp) (s.uM fp tp) (gz 0 ⟨#[]⟩) W):=by
 have J9:=zI h hg fp aH hw;have Sf:=zI h hg tp aH xw;have HQ:ax ((dV s.bA aH fp).2.length<=80/\(dV s.bA aH tp).2.length<=80):=⟨jI _ _ _,jI _ _ _⟩
 have hsc:=fun Y (hY:au W.heap.size W Y)=>(h.bB hY).cells
 have kG:∀ Y,au W W Y->∀ d g:aA,d.size<=80->g.size<=80->∀ ae,dg (bH s.all).1 (ez s.bA d g) (s.nr d g).length=ae->ay aP 82 #[ar #[ah L.y.ad L.y.es.length L.y.cap,ah L.pl L.lo.length L.cl],ai d,ai g] Y (QW Y ae (if ae=0 then s.nr d g else[]) (if ae=0 then s.cq else[])):=fun Y hY d g hd Ei ae qd=>by
  obtain⟨m',O8⟩:=(hg.bB (hY.mono (bc h.aS.1 (bM h.lt)))).2;refine(EC L.y L.lo m' L.pl L.cl d g (by unfold maxLen;omega) (by unfold maxLen;omega) Y (h.bB hY).data.now.un O8).mono fun r w' k=>?_
  have k:=k.Tm;rw[h.up,h.low,show dg (bH (s.up::s.cq)).1 (ez (cO (s.up::s.cq)) d g) (if d.data.toList=g.data.toList then s.up else kh s.up (bG s.cq).2 (cO (s.up::s.cq)) d g).length=ae from qd]at k;exact k
 have HA:ax (bV aS W S s L/\Gl aS W/\∀ i∈s.cr,∀ f,s.bh[i]?=aO f->f.bm.size<=80):=⟨h,hg,iL⟩
 generalize qd:s.n9 fp tp=ae;generalize K6:s.uM fp tp=s';unfold Sy.n9 Sy.kH at qd;unfold Sy.uM Sy.kH at K6;generalize dV s.bA aH fp.data.toList=Q at *;generalize dV s.bA aH tp.data.toList=Q' at *;obtain⟨er,q⟩:=Q;obtain⟨er',q'⟩:=Q';have HE:ax (_=ae/\_=s'):=⟨qd,K6⟩
 generalize L.y.es.length=yn at hsc kG;generalize L.lo.length=ln at hsc kG;simp only at J9 Sf HQ HE;have hS:=h.lt;clear qd K6 h hg iL;go_enter func44,ntmps44;go_upto_region 0 with fail
 go_cut [3]from 3 to 7 (fun s3 w=>s3=aj (aO W)/\ax (Hb W w [(W.heap.size,.cells #[aj (aO S)] 42)]))
 case first=>
  go_wp2_with fail;go_meet
  case rel=>exact⟨rfl,(Hb.nil W).add _⟩
 obtain⟨rfl,HB⟩:=hcut;have b0:=HB.c1;go_upto_region 1 with fail
 go_cut [8,9]from 8 to 17 (fun s8 s9 w=>∃ (P:aE) (d:aA),s8=aj (aO P)/\s9=aa ag er/\ax (d.data.toList=q/\Hb W w [(P,.cells #[ai d] 9),(W.heap.size,.cells #[aj (aO S)] 42)]))
 case first=>
  go_wp2_with (go_at_call 71;refine(J9 _ HB.low).mono ?_;clear J9;rintro r w3 ⟨d,rfl,hd,eG⟩;have H3:ax _:=fB hd (HB.on eG);clear hd eG);go_meet
  case rel=>exact⟨_,d,rfl,rfl,H3.1,H3.2.add _⟩
 obtain⟨P,d,rfl,rfl,HP⟩:=hcut;clear HB b0 J9;cases h0:(er != 0);rotate_left
 ·have hz:¬ er=0:=by simpa using h0
  go_wp2_with fail;go_ret2;exact cF.er HP.2.low (HE.1.symm.trans (aY hz)) hz
 obtain rfl:er=0:=by simpa using h0
 have b0:=HP.2.tl.c1;clear h0;go_upto_region 4 with fail
 go_cut [10,9]from 21 to 26 (fun s10 s9 w=>∃ (P':aE) (g:aA),s10=aj (aO P')/\s9=aa ag er'/\ax (g.data.toList=q'/\Hb W w [(P',.cells #[ai g] 9),(P,.cells #[ai d] 9),(W.heap.size,.cells #[aj (aO S)] 42)]))
 case first=>
  go_wp2_with (go_at_call 71;refine(Sf _ HP.2.low).mono ?_;clear Sf;rintro r w3 ⟨g,rfl,hd,eG⟩;have H3:ax _:=fB hd (HP.2.on eG);clear hd eG);go_meet
  case rel=>exact⟨_,g,rfl,rfl,H3.1,H3.2.add _⟩
 obtain⟨P',g,rfl,rfl,HR⟩:=hcut;clear b0 Sf;cases h0:(er' != 0);rotate_left
 ·have hz:¬ er'=0:=by simpa using h0
  go_wp2_with fail;go_ret2;exact cF.er HR.2.low (HE.1.symm.trans ((aW (by simp)).trans (aY hz))) hz
 obtain rfl:er'=0:=by simpa using h0
 generalize wN:d.toList.isEmpty=de;generalize gI:g.toList.isEmpty=ge;replace HE:ax (d.size<=80/\g.size<=80/\(if de=aI\/ge=aI then 8 else dg (bH s.all).1 (ez s.bA d g) (s.nr d g).length)=ae/\(s.anS d g).di (s.nr d g) s.cq=s'):=by
  have hb:fU q=d:=fV (by rw[HP.1];simp[fU]);have ot:fU q'=g:=fV (by rw[HR.1];simp[fU]);refine⟨by rw[<- ix,HP.1];exact HQ.1,by rw[<- ix,HR.1];exact HQ.2,?_⟩;have e1:q=[]↔de=aI:=by rw[<- wN,<- HP.1,bq];simp
  have e2:q'=[]↔ge=aI:=by rw[<- gI,<- HR.1,bq];simp
  simpa[e1,e2,hb,ot]using HE.out
 replace HP:ax (Hb W wc _):=HR.2;have q0:=HP.c1;have p0:=HP.tl.c1;have b0:=HP.tl.tl.c1;clear h0 HR;cases hor:(de || ge);rotate_left
 ·cases de
  case' true=>skip
  case' false=>obtain rfl:ge=aI:=hor
  all_goals
   go_wp2_with fail;go_ret2;exact cF.er HP.low (HE.2.2.1.symm.trans (aY (by simp))) (by decide)
 obtain⟨rfl,rfl⟩:de=aH/\ge=aH:=by simpa using hor
 obtain⟨Eg,abx,qd,K6⟩:=HE.out;rw[aW (by simp)]at qd;replace kG:=fun Y hY=>kG Y hY d g Eg abx ae qd
 have HW:ax (ae=0->(bH (s.nr d g::s.cq)).1=0):=fun e=>(AD (qd.trans e)).1
 have HS:ax (_=s'):=K6;generalize s.nr d g=up at kG HW HS;obtain⟨c0,c1,_⟩:=hsc _ HP.low;have n0:=World.new_ne wc ⟨S,0,aN⟩ c0;have n1:=World.new_ne wc ⟨W,0,aN⟩ b0;have n2:=World.new_ne wc ⟨P,0,aN⟩ p0;have n3:=World.new_ne wc ⟨P',0,aN⟩ q0;clear HE qd K6 hor;go_upto_region 9 with fail
 go_cut [11,9]from 36 to 45 (fun s11 s9 w=>∃ (U:aE) (y:Lay) (lo:aB Lay) (pl:aC aJ) (cl yn ln:aE),s11=aj (aO U)/\s9=aa ag ae/\ax (Hb W w [(U,.cells #[ah y.ad yn y.cap,ah pl ln cl] 26),(P',.cells #[ai g] 9),(P,.cells #[ai d] 9),(W.heap.size,.cells #[aj (aO S)] 42)]/\(ae=0->yn=y.es.length/\ln=lo.length/\y.es=up/\lo.map (·.es)=s.cq/\St (Sp S s L) w fun X=>eZ X y lo pl cl)))
 case first=>
  go_region_held3 (fun w'=>w'.cell? W=aO (aj (aO S))/\w'.cell? S=aO (ah L.y.ad yn L.y.cap)/\w'.cell? ⟨S,1,aN⟩=aO (ah L.pl ln L.cl)/\w'.cell? P=aO (ai d)/\w'.cell? P'=aO (ai g)) (go_keep) (first
   | (go_at_call 82;refine(kG _ HP.drew.low).mono ?_;clear kG;rintro r w7 ⟨y,lo,pl,cl,D6,tK,rfl,H7⟩;have H4:=HP.drew.on H7.2.2.2.2.2.1;have z0:=H4.tl.tl.c1;obtain⟨z1,z2,_⟩:=hsc _ H4.low;have z3:=H4.c1;have z4:=H4.tl.c1;have HF:ax _:=H4;clear H4)
   | (go_at_call 82;refine(kG _ (HP.add _).drew.low).mono ?_;clear kG;rintro r w7 ⟨y,lo,pl,cl,D6,tK,rfl,H7⟩;have H4:=(HP.add _).drew.on H7.2.2.2.2.2.1;have z0:=H4.tl.tl.tl.c1;obtain⟨z1,z2,_⟩:=hsc _ H4.low;have z3:=H4.tl.c1;have z4:=H4.tl.tl.c1;obtain⟨⟨x0,x1⟩,f0,f1⟩:=H4.c2;have HF:ax _:=H4;clear H4))
  all_goals
   go_wp2_with fail;go_meet
   case rel=>
    obtain⟨r1,r2,r3,r4,r5,r6,r7⟩:=H7.out;refine⟨_,y,lo,pl,cl,D6,tK,rfl,rfl,?_,fun e=>?_⟩
    ·first
      | exact HF.add _
      | exact HF.Mc _ _
    ·rw[aY e]at r3 r4
     refine⟨r1,r2,r3,r4,?_⟩;first
      | exact HA.1.un1 HP.out r5 r7 _
      | exact HA.1.un2 HP.out r5 r7 _ _
 obtain⟨U,y,lo,pl,cl,D6,tK,rfl,rfl,HF⟩:=hcut;cases h0:(ae != 0)
 ·obtain rfl:ae=0:=by simpa using h0
  go_wp2_with fail;go_ret2;obtain⟨rfl,rfl,r3,r4,r5⟩:=HF.2 (by trivial);have hF:=HF.1;rw[<- HS.out];exact Wd HA.1 HA.2.1 hF.low hF.tl.tl.tl.ge hF.tl.tl.ge hF.tl.ge hF.ge hF.tl.tl.tl.c1 Eg abx hF.tl.tl.c1 hF.tl.c1 (y:=y) (lo:=lo) (pl:=pl) (cl:=cl) ⟨hF.c2.1.1,hF.c2.1.2⟩ r5 r3 r4 (HW.out (by trivial)) HA.2.2
 ·go_wp2_with fail
  go_ret2;exact cF.no _ (by simpa using h0) HF.1.low
theorem Xv{w:aw}{v:az}(h:LK.Rows w aS v l):∃ p c,v=ah p l.length c/\LK.bI w p l/\l.length<=c/\(p=aN->c=0)/\∀ b off s,p=aO ⟨b,off,s⟩->aS<=b:=by
 by_cases hv:v=ah aN 0 0
 ·have hl:l=[]:=by
   obtain⟨h1,⟨_,h2⟩|⟨g,cap,eI,yE,_⟩⟩:=h
   ·exact bX h2
   ·rw[yE]at hv;cases hv
  subst hl;exact⟨aN,0,hv,LK.bI.nil _ _,aV _,fun _=>rfl,nofun⟩
 ·obtain⟨g,c,e,hg,ho⟩:=LK.Own.pS h hv rfl
  exact⟨_,c,e,ho.anO,ho.len,nofun,fun b off s e=>(by cases e;exact hg)⟩
namespace PM
open Classical in
noncomputable def fK(free:Bool)(l:aB LK.Lk)(x:LK.Lk):aF × aB LK.Lk:=if h:∃ r:aF × aB LK.Lk,LK.KM.nP free l x r.1 r.2 then Classical.choose h else(0,[])
theorem uh{free:Bool}{x:LK.Lk}{e:aF}{m:aB LK.Lk}(h:LK.KM.nP free l x e m):e=(fK free l x).1/\m=(fK free l x).2:=by
 have hx:∃ r:aF × aB LK.Lk,LK.KM.nP free l x r.1 r.2:=⟨(e,m),h⟩
 rw[fK,EN hx];exact LK.KM.JM h (Classical.choose_spec hx)
end PM
theorem Bw{s:Sy}(h:bV aS W S s L)(g:FuncId)(eg:∀ args w,(callFunc g args).run aP w=.ok (.enter g args) w)(free:Bool)(xE:∀ (Y:aw) (l:aB LK.Lk) (x:LK.Lk) (p:aC aJ) (cap:aE),LK.bI Y p l->l.length<4611686018427387904->l.length<=cap->ay aP g #[ah p l.length cap,ar #[aa ag x.o, aa ag x.f, aa ag x.t, aq x.a]] Y (LK.mA free l x Y))(j:aE)(o:qI)(f:Fl)(ho:s.bJ[j]?=aO o)(hf:s.bh[o.cM]?=aO f)(Ka:f.b9.length<=1000)(ck co cf cn cm:aF)(cp ct cx:aA)(ca:Bool):ay aP 91 #[aj (aO ⟨L.ob j,0,aN⟩),ar #[aa ag ck,aa ag co,aa ag cf,aa ag cn,aa ag cm,ai cp,ai ct,ai cx,aq ca],.func (.func g) #[] #[]] W (cF aS S s L (fK free f.b9 ⟨co,cn,cm,ca⟩).1 (s.dQ o.cM { f with b9:=(fK free f.b9 ⟨co,cn,cm,ca⟩).2 }) (gz 0 ⟨#[]⟩) W):=by
 obtain⟨X,hX⟩:=o7 ((W.alloc (aM #[aj (aO ⟨L.ob j,0,aN⟩)] 44)).alloc (aM #[aa ag ck,aa ag co,aa ag cf,aa ag cn,aa ag cm,ai cp,ai ct,ai cx,aq ca] 51))
 have mg:au W W X:=by rw[<- hX];exact((aR _ _).alloc (aV _) _).alloc (by simp) _
 have Sw:X.heap.size=W.heap.size+2:=by rw[<- hX];simp
 have hk:=h.bB mg;obtain⟨⟨c0,_,_⟩,_⟩:=hk.oW ho;obtain⟨⟨_,_,g2⟩,_,_,fz⟩:=hk.tX hf;have hi:=(aQ.1 hf).1;have hj:=(aQ.1 ho).1;have Uj:=hk.BL hi;have WY:=hk.Cs hj;have hFW:=h.BL hi;have hOW:=h.Cs hj;have RP:W.heap.size<X.heap.size:=by omega
 have JZ:W.heap.size+1<X.heap.size:=by omega
 have b0:X.cell? W=aO (aj (aO ⟨L.ob j,0,aN⟩)):=by simp[World.cell?,nB hX]
 have k1:X.cell? ⟨↑W+1,1,aN⟩=aO (aa ag co):=by simp[World.cell?,jm hX]
 have k3:X.cell? ⟨↑W+1,3,aN⟩=aO (aa ag cn):=by simp[World.cell?,jm hX]
 have k4:X.cell? ⟨↑W+1,4,aN⟩=aO (aa ag cm):=by simp[World.cell?,jm hX]
 have k8:X.cell? ⟨↑W+1,8,aN⟩=aO (aq ca):=by simp[World.cell?,jm hX]
 have hd:=hk.data.now.b9 o.cM f hf;obtain⟨fb,xZ⟩:=ee (L.fb o.cM)
 obtain⟨lp,O7⟩:=ee ((L.lp o.cM).1)
 obtain⟨lc,Ld⟩:=ee ((L.lp o.cM).2)
 obtain⟨n0,IL⟩:=ee f.b9.length
 obtain⟨er,ni⟩:=ee ((fK free f.b9 ⟨co,cn,cm,ca⟩).1)
 obtain⟨ml,Uz⟩:=ee ((fK free f.b9 ⟨co,cn,cm,ca⟩).2)
 obtain⟨n,hn⟩:=ee ml.length
 rw[<- xZ,<- O7,<- Ld,<- IL]at g2;rw[<- xZ]at c0 Uj hFW;rw[<- O7,<- Ld]at hd;have kG:∀ Y,au X X Y->ay aP g #[ah lp n0 lc,ar #[aa ag co,aa ag cn,aa ag cm,aq ca]] Y (fun r w'=>∃ p c,r=aK (aL #[ah p n c,aa ag er])/\ax (LK.bI w' p ml/\ml.length<=c/\(p=aN->c=0)/\(∀ b off s,p=aO ⟨b,off,s⟩->Y.heap.size<=b)/\au Y.heap.size Y w')):=fun Y hY=>by
  have:=xE Y f.b9 ⟨co,cn,cm,ca⟩ lp lc (hd.1.bB hY) (by omega) hd.2.1;rw[<- IL]at this;refine this.mono fun r w' ⟨v,err,m,e,hr,hs,hB⟩=>?_
  obtain⟨e1,e2⟩:=uh hs;obtain⟨p,c,ev,q1,q2,q3,q4⟩:=Xv hr;subst ev;rw[e1,<- ni]at e;rw[e2,<- Uz]at e q1 q2;exact⟨p,c,by rw[e,hn],q1,q2,q3,q4,hB⟩
 have HA:ax (bV aS W S s L/\s.bJ[j]?=aO o/\s.bh[o.cM]?=aO f/\fb=L.fb o.cM/\n=ml.length/\au W W X):=⟨h,ho,hf,xZ,hn,mg⟩
 rw[<- ni,<- Uz];have HX:ax ((W.alloc (aM #[aj (aO ⟨L.ob j,0,aN⟩)] 44)).alloc (aM #[aa ag ck,aa ag co,aa ag cf,aa ag cn,aa ag cm,ai cp,ai ct,ai cx,aq ca] 51)=X):=hX;have n1:=World.new_ne X ⟨W,0,aN⟩ b0;have n2:=World.new_ne X ⟨↑W+1,1,aN⟩ k1;have n3:=World.new_ne X ⟨L.ob j,0,aN⟩ c0;have n4:=World.new_ne X ⟨fb,2,aN⟩ g2;clear h ho hf xZ hn mg hk hd O7 Ld IL ni Uz hX hi hj xE fz;have eK:¬ fb=W.heap.size:=by omega
 clear Sw;go_enter func91,ntmps91;go_wp2;rw[HX.out];by_cases hz:er=0
 ·subst hz
  go_region_held3 (fun w'=>w'.cell? W=aO (aj (aO ⟨L.ob j,0,aN⟩))/\w'.cell? ⟨L.ob j,0,aN⟩=aO (aj (aO fb))/\w'.cell? ⟨fb,2,aN⟩=aO (ah lp n0 lc)/\w'.cell? ⟨(W.heap.size+1),1,aN⟩=aO (aa ag co)/\w'.cell? ⟨(W.heap.size+1),3,aN⟩=aO (aa ag cn)/\w'.cell? ⟨(W.heap.size+1),4,aN⟩=aO (aa ag cm)/\w'.cell? ⟨(W.heap.size+1),8,aN⟩=aO (aq ca)) (go_keep) (first
   | (go_at_fn g;refine(uC (kG _ (aR _ _).drew) ?_);clear kG;rintro r w7 ⟨p,c,rfl,H7⟩;have ie:au X X w7:=((aR _ _).drew).trans H7.2.2.2.2;have z0:=(ie.cell (p:=W) RP).trans b0;have z1:=(ie.cell (p:=⟨L.ob j,0,aN⟩) WY).trans c0;have z2:=(ie.cell (p:=⟨fb,2,aN⟩) Uj).trans g2;have z3:=(ie.cell (p:=⟨(W.heap.size+1),1,aN⟩) JZ).trans k1;have z4:=(ie.cell (p:=⟨(W.heap.size+1),3,aN⟩) JZ).trans k3;have z5:=(ie.cell (p:=⟨(W.heap.size+1),4,aN⟩) JZ).trans k4;have z6:=(ie.cell (p:=⟨(W.heap.size+1),8,aN⟩) JZ).trans k8)
   | (go_at_fn g;refine(uC (kG _ (((aR _ _).alloc (aV _) _).drew)) ?_);clear kG;rintro r w7 ⟨p,c,rfl,H7⟩;have ie:au X X w7:=(((aR _ _).alloc (aV _) _).drew).trans (H7.2.2.2.2.mono (by rw[show ∀ o,(X.alloc o).drew.heap.size=X.heap.size+1 from fun o=>cE X o];omega));have z0:=(ie.cell (p:=W) RP).trans b0;have z1:=(ie.cell (p:=⟨L.ob j,0,aN⟩) WY).trans c0;have z2:=(ie.cell (p:=⟨fb,2,aN⟩) Uj).trans g2;have z3:=(ie.cell (p:=⟨(W.heap.size+1),1,aN⟩) JZ).trans k1;have z4:=(ie.cell (p:=⟨(W.heap.size+1),3,aN⟩) JZ).trans k3;have z5:=(ie.cell (p:=⟨(W.heap.size+1),4,aN⟩) JZ).trans k4;have z6:=(ie.cell (p:=⟨(W.heap.size+1),8,aN⟩) JZ).trans k8;have x0:w7.cell? X=aO (ah aN 0 0):=(H7.2.2.2.2.cell (p:=X) (by show X.heap.size<_;rw[show ∀ o,(X.alloc o).drew.heap.size=X.heap.size+1 from fun o=>cE X o];omega)).trans (by simp);have f0:w7.frozen? X=aH:=(H7.2.2.2.2.frozen (p:=X) (by show X.heap.size<_;rw[show ∀ o,(X.alloc o).drew.heap.size=X.heap.size+1 from fun o=>cE X o];omega)).trans (by simp)))
  ·have HF:ax (cF aS S s L 0 (s.dQ o.cM { f with b9:=ml }) (gz 0 ⟨#[]⟩) W (aK (aL #[.func (.func 141) #[] #[aj (aO w7),aj (aO W)],aa ag 0])) (w7.alloc (aM #[ah p n c] 96))):=by
    obtain⟨r1,r2,r3,r4,r5⟩:=H7.out;obtain⟨h,ho,hf,xZ,hn,mg⟩:=HA.out;have Ee:au w7 w7 (w7.alloc (aM #[ah p n c] 96)):=((Grown.refl w7).alloc _).below;have G6:au W W (w7.alloc (aM #[ah p n c] 96)):=Below.bK (Below.bK mg ie) Ee;have h7:=ie.size;refine⟨_,rfl,G6,fun _=>⟨_,_,rfl,enters_of func141 (by kernel_rfl) rfl,SU (h.bB G6) w7.heap.size W j o f ho hf ml p n c hn (by simp) ((Ee.cell (p:=W) (by show W.heap.size<_;omega)).trans z0) (St.on (M3.st r1 (fun b off s' e qt=>?_)) (cA.dB _ Ee)) r2 r3 (by rw[<- xZ];omega) (by rw[<- xZ];exact eK)⟩⟩;have h1:=r4 b off s' e;have h2:=(h.od qt).2;have h3:X.drew.heap.size=X.heap.size:=rfl;omega
   clear H7 ie;go_wp2;go_ret2;exact HF.out
  ·have HF:ax (cF aS S s L 0 (s.dQ o.cM { f with b9:=ml }) (gz 0 ⟨#[]⟩) W (aK (aL #[.func (.func 141) #[] #[aj (aO X),aj (aO W)],aa ag 0])) (w7.setCell X (ah p n c))):=by
    obtain⟨r1,r2,r3,r4,r5⟩:=H7.out;obtain⟨h,ho,hf,xZ,hn,mg⟩:=HA.out;have Ee:au X X (w7.setCell X (ah p n c)):=ie.setCell (p:=X) (aV _) _;have G6:au W W (w7.setCell X (ah p n c)):=Below.bK mg Ee;have h7:=ie.size;have Sz:∀ o,(X.alloc o).drew.heap.size=X.heap.size+1:=fun o=>cE X o
    have hbx:w7.heap[X.heap.size]?=aO (aM #[ah aN 0 0] 96):=(r5.block _ (by rw[Sz];omega)).trans (heap_alloc_last X _);have k2:=dZ hbx 0 (ah p n c);have kQ:St (fun b=>Sp S s L b\/b=X.heap.size) w7 (fun X=>LK.bI X p ml):=M3.st r1 (fun b off s' e qt=>by
     have h1:=r4 b off s' e;rw[Sz]at h1;rcases qt with qt|rfl
     ·have h2:=(h.od qt).2;omega
     ·omega)
    exact⟨_,rfl,G6,fun _=>⟨_,_,rfl,enters_of func141 (by kernel_rfl) rfl,SU (h.bB G6) X.heap.size W j o f ho hf ml p n c hn (by simp[World.cell?,k2]) ((Ee.cell (p:=W) (by show W.heap.size<_;omega)).trans b0) (St.more (St.on kQ (cA.set (.inr rfl) _ 0 _)) (fun b _ hb=>.inl hb)) r2 r3 (by rw[<- xZ];omega) (by rw[<- xZ];exact eK)⟩⟩
   clear H7 ie;go_wp2;go_ret2;exact HF.out
 ·have hne:(er != 0)=aI:=by simpa using hz
  go_region_held3 (fun w'=>w'.cell? W=aO (aj (aO ⟨L.ob j,0,aN⟩))/\w'.cell? ⟨L.ob j,0,aN⟩=aO (aj (aO fb))/\w'.cell? ⟨fb,2,aN⟩=aO (ah lp n0 lc)/\w'.cell? ⟨(W.heap.size+1),1,aN⟩=aO (aa ag co)/\w'.cell? ⟨(W.heap.size+1),3,aN⟩=aO (aa ag cn)/\w'.cell? ⟨(W.heap.size+1),4,aN⟩=aO (aa ag cm)/\w'.cell? ⟨(W.heap.size+1),8,aN⟩=aO (aq ca)) (go_keep) (first
   | (go_at_fn g;refine(uC (kG _ (aR _ _).drew) ?_);clear kG;rintro r w7 ⟨p,c,rfl,H7⟩;have ie:au X X w7:=((aR _ _).drew).trans H7.2.2.2.2;have z0:=(ie.cell (p:=W) RP).trans b0;have z1:=(ie.cell (p:=⟨L.ob j,0,aN⟩) WY).trans c0;have z2:=(ie.cell (p:=⟨fb,2,aN⟩) Uj).trans g2;have z3:=(ie.cell (p:=⟨(W.heap.size+1),1,aN⟩) JZ).trans k1;have z4:=(ie.cell (p:=⟨(W.heap.size+1),3,aN⟩) JZ).trans k3;have z5:=(ie.cell (p:=⟨(W.heap.size+1),4,aN⟩) JZ).trans k4;have z6:=(ie.cell (p:=⟨(W.heap.size+1),8,aN⟩) JZ).trans k8)
   | (go_at_fn g;refine(uC (kG _ (((aR _ _).alloc (aV _) _).drew)) ?_);clear kG;rintro r w7 ⟨p,c,rfl,H7⟩;have ie:au X X w7:=(((aR _ _).alloc (aV _) _).drew).trans (H7.2.2.2.2.mono (by rw[show ∀ o,(X.alloc o).drew.heap.size=X.heap.size+1 from fun o=>cE X o];omega));have z0:=(ie.cell (p:=W) RP).trans b0;have z1:=(ie.cell (p:=⟨L.ob j,0,aN⟩) WY).trans c0;have z2:=(ie.cell (p:=⟨fb,2,aN⟩) Uj).trans g2;have z3:=(ie.cell (p:=⟨(W.heap.size+1),1,aN⟩) JZ).trans k1;have z4:=(ie.cell (p:=⟨(W.heap.size+1),3,aN⟩) JZ).trans k3;have z5:=(ie.cell (p:=⟨(W.heap.size+1),4,aN⟩) JZ).trans k4;have z6:=(ie.cell (p:=⟨(W.heap.size+1),8,aN⟩) JZ).trans k8;have x0:w7.cell? X=aO (ah aN 0 0):=(H7.2.2.2.2.cell (p:=X) (by show X.heap.size<_;rw[show ∀ o,(X.alloc o).drew.heap.size=X.heap.size+1 from fun o=>cE X o];omega)).trans (by simp);have f0:w7.frozen? X=aH:=(H7.2.2.2.2.frozen (p:=X) (by show X.heap.size<_;rw[show ∀ o,(X.alloc o).drew.heap.size=X.heap.size+1 from fun o=>cE X o];omega)).trans (by simp)))
  ·have HF:ax (au W W (w7.alloc (aM #[ah p n c] 96))):=by
    have h1:=Below.bK HA.2.2.2.2.2 ie;exact h1.alloc h1.size _
   clear H7 ie;go_wp2;go_ret2;exact cF.no _ hz HF.out
  ·have HF:ax (au W W (w7.setCell X (ah p n c))):=Below.bK HA.2.2.2.2.2 (ie.setCell (p:=X) (aV _) _)
   clear H7 ie;go_wp2;go_ret2;exact cF.no _ hz HF.out
namespace PM
def fI(t:aA)(n:aF):aA:=t.extract 0 (min n t.size).toNat++⟨(Lib.repeatL [0] (max 0 (n-t.size)).toNat).toArray⟩
theorem Bm(c:aE):(Lib.repeatL ([0]:aB aD) c).length=c:=by
 induction c with
 | zero=>rfl
 | succ c ih=>simp[Lib.repeatL]at ih ⊢;try omega
theorem mQ(t:aA)(n:aF)(h0:0<=n):((fI t n).size:aF)=n:=by
 have h1:(ByteArray.mk (Lib.repeatL ([0]:aB aD) (max 0 (n-t.size)).toNat).toArray).size=(max 0 (n-t.size)).toNat:=by show(Lib.repeatL ([0]:aB aD) (max 0 (n-t.size)).toNat).toArray.size=_;rw[ju,Bm]
 unfold fI;rw[gK,h1,fc];omega
end PM
theorem Fu(t:aA)(n:aF)(h0:0<=n)(h1:n<=1000)(ht:t.size<=1000)(w:aw):ay aP 149 #[ai t,aa ag n] w fun r w'=>r=aK (ai (fI t n))/\au w w w':=by
 have hc:(((max 0 (n-t.size)).toNat:aE):aF)=max 0 (n-t.size):=Int.toNat_of_nonneg (by omega);have hr:=fun Y=>Tryz.strings_Repeat ⟨#[0]⟩ (max 0 (n-t.size)).toNat Y (by omega) (by show 1*_<=_;omega)
 simp only[hc]at hr;obtain⟨R,hR⟩:=ee (⟨(Lib.repeatL (ByteArray.mk #[0]).data.toList (max 0 (n-t.size)).toNat).toArray⟩:aA)
 have HZ:ax (fI t n=t.extract 0 (min n t.size).toNat++R):=by rw[hR];exact rfl
 have hRs:R.size<=1000:=by rw[hR];show(Lib.repeatL ([0]:aB aD) (max 0 (n-t.size)).toNat).toArray.size<=_;rw[ju,Bm];omega
 simp only[<- hR]at hr;clear hc hR;have m0:(0:aF)<=min n t.size:=by omega
 have m1:min n (t.size:aF)<=t.size:=by omega
 obtain⟨E,hE⟩:=o7 (t.extract 0 (min n t.size).toNat)
 have hEs:E.size<=1000:=by rw[<- hE,fc];omega
 have Ef:(9223372036854775807<E.size+R.size)=False:=tV (by omega);have F9:(IntKind.i64.max<((E.size+R.size:aE):aF))=False:=tV (by have:IntKind.i64.max=9223372036854775807:=rfl;omega);have m2:IntKind.i64.wrap (n-t.size)=n-t.size:=by rw[qq];omega
 go_enter func149,ntmps149;go_wp2;go_region_held3 (fun w'=>w.heap.size<=w'.heap.size) (go_keep) (first|(go_at_call 193;refine(hr _).mono ?_;clear hr;rintro r w3 ⟨rfl,eG⟩;have eO:au w w w3:=((aR _ _).drew).trans eG;have Sv:=eO.size));all_goals
  go_wp2;go_ret;exact⟨by rw[HZ.out,hE];rfl,eO⟩
