import Derived.Test.YtjnkfelecopbjaaGreatDoorYA12
open Go.Proofs.Tryz
open Go.Value renaming int->aa,slice->ah,string->ai,pointer->aj,bool->aq,agg->ar,tuple->aL
open Go.IntKind renaming i64->ag
open Go.RowKit renaming Below->au
open Go renaming World->aw,Aside->ax,Calls->ay,Value->az
open _root_ renaming ByteArray->aA,List->aB,Option->aC,Nat->aE,Int->aF,absurd->aG
open Bool renaming false->aH,true->aI
open Go.Ending renaming returned->aK
open Go.Obj renaming cells->aM
open Option renaming none->aN,some->aO
open Go.Proofs.Tryz renaming prog->aP
set_option linter.all false
set_option maxHeartbeats 8000000
set_option maxRecDepth 100000
namespace Go.Proofs.YtjnkfelecopbjaaGreatDoor
open Go.RowKit PM Go.Sort
variable{L:im}{S aS:aE}{W W' Wf:aw}{err:aF}{up:aB bP}
namespace PM
noncomputable def Sy.eh(s:Sy)(f:Fl)(t:aA):aF:=if t.data.toList=(s.cQ f).data.toList then 0 else if f.bm.data.toList=[]then 0 else dg (bH s.all).1 (dW s.bA ⟨f.bm,1,t,aH⟩) (cZ s.up ⟨f.bm,1,t,aH⟩).length
def Sy.eT(s:Sy)(i:aE)(f:Fl)(t:aA):Sy:=if t.data.toList=(s.cQ f).data.toList then s else if f.bm.data.toList=[]then s.dQ i { f with text:=t }else s.di (cZ s.up ⟨f.bm,1,t,aH⟩) s.cq
end PM
theorem NL(P:Program)(w:aw)(a:Addr)(m:Mode)(f:Fn)(b c:Array az):(store a (.func f b c) m).run P w=stored P w a (.func f b c) m:=run_store P w a _ m rfl
theorem kO.keep(s:Sy)(i:aE)(f:Fl)(t:aA):kO s (s.eT i f t):=by
 unfold Sy.eT;split
 ·exact⟨rfl,rfl⟩
 ·split
  ·exact⟨rfl,by simp[Sy.dQ]⟩
  ·exact⟨rfl,rfl⟩
def zU(aS S:aE)(s s':Sy)(L:im)(g:FuncId)(cap:Array az)(n:aE)(W':aw):Prop:=∀ (Y:aw) (L2:im),bV aS Y S s L2->cA (fun b=>b<n) W' Y->L2.ob=L.ob->L2.fb=L.fb->(∀ b,Sp S s L2 b->b<n\/W'.heap.size<=b)->Gl aS Y->ay aP g cap Y (zV aS S s s' L2 Y)
def oK(aS S:aE)(s:Sy)(L:im)(err:aF)(s':Sy)(W:aw)(r:Ending)(W':aw):Prop:=∃ g cap,r=aK (aL #[.func (.func g) #[] cap,aa ag err])/\au W W W'/\(err=0->(∀ args w,(callFunc g args).run aP w=.ok (.enter g args) w)/\zU aS S s s' L g cap W W')
theorem oK.no{s:Sy}{s':Sy}(g:FuncId)(cap:Array az)(he:¬ err=0)(hB:au W W W'):oK aS S s L err s' W (aK (aL #[.func (.func g) #[] cap,aa ag err])) W':=⟨g,cap,rfl,hB,fun h=>aG h he⟩
section
variable {aS n:aE}{W:aw}{S:aE}{s:Sy}{L:im}
theorem cA.at{Y:aw}{B i:aE}{v:az}(hk:cA (fun b=>b<n) W Y)(hB:n<=B)(h:W.cell? ⟨B,i,aN⟩=aO v):Y.cell? ⟨B,i,aN⟩=aO v:=(gY (hk.block B (bg h) (by omega)) i).trans h
theorem VQ:zU aS S s s L 194 #[] n W:=fun Y L2 h _ _ _ _ _=>acv h
theorem VR{Bt Bf i:aE}{t:aA}{f:Fl}(l0:n<=Bt)(l1:n<=Bf)(hf:s.bh[i]?=aO f)(J5:W.cell? Bt=aO (ai t))(Nl:W.cell? Bf=aO (aj (aO ⟨L.fb i,0,aN⟩))):zU aS S s (s.dQ i { f with text:=t }) L 195 #[aj (aO Bt),aj (aO Bf)] n W:=fun Y L2 h hB ho xZ _ _=>
 acw h Bt Bf i t f hf (hB.at l0 J5) (by rw[xZ];exact hB.at l1 Nl)
theorem NA{B0 B1:aE}(l0:n<=B0)(l1:n<=B1)(zO:W.cell? B0=aO (aj (aO S))){y:Lay}{lo:aB Lay}{pl:aC Addr}{cl:aE}(si:uE W B1 y lo pl cl)(hU:St (fun b=>b<n) W (fun X=>eZ X y lo pl cl)){cq:aB (aB bP)}(hy:y.es=up)(hl:lo.map (·.es)=cq)(h0:(bH (up::cq)).1=0):zU aS S s (s.di up cq) L 196 #[aj (aO B0),aj (aO B1)] n W:=fun Y L2 h hB _ _ hs hg=>by subst hy hl;exact acx h hg B0 B1 (hB.at l0 zO) y lo pl cl ⟨hB.at l1 si.c0,hB.at l1 si.c1⟩ (fun Z hZ=>hU Z ⟨bc hB.size hZ.size,fun b hb hn=>(hZ.block b (aZ hb hB.size) (fun h2=>(hs b h2).elim hn (fun h3=>by omega))).trans (hB.block b hb hn)⟩) h0
end
theorem A5{s:Sy}(h:bV aS W S s L)(hg:Gl aS W)(i:aE)(f:Fl)(hf:s.bh[i]?=aO f)(x6:f.bm.size<=80)(t:aA)(ht:t.size<=maxLen):ay aP 150 #[aj (aO S),aj (aO ⟨L.fb i,0,aN⟩),ai t] W (oK aS S s L (s.eh f t) (s.eT i f t) W):=by
 obtain⟨X,hX⟩:=o7 (((W.alloc (aM #[aj (aO S)] 42)).alloc (aM #[aj (aO ⟨L.fb i,0,aN⟩)] 78)).alloc (aM #[ai t] 9))
 have mg:au W W X:=by rw[<- hX];exact(((aR _ _).alloc (aV _) _).alloc (by simp) _).alloc (by simp;omega) _
 have Sw:X.heap.size=W.heap.size+3:=by rw[<- hX];simp
 obtain⟨q0,q1,q2⟩:=Hy hX;have b0:X.cell? W=aO (aj (aO S)):=by simp[World.cell?,q0]
 have b1:X.cell? ⟨↑W+1,0,aN⟩=aO (aj (aO ⟨L.fb i,0,aN⟩)):=by simp[World.cell?,q1]
 have b2:X.cell? ⟨↑W+2,0,aN⟩=aO (ai t):=by simp[World.cell?,q2]
 have eD:aS<=W.heap.size:=bc h.aS.1 (bM h.lt);have hk:=h.bB mg;have lz:=fun Y (hY:au X.heap.size X Y)=>wk hk hf x6 Y hY
 obtain⟨⟨c0,_,_⟩,_⟩:=hk.tX hf;have lF:=hk.BL (aQ.1 hf).1;have l0:W.heap.size<X.heap.size:=by omega
 have l1:W.heap.size+1<X.heap.size:=by omega
 have l2:W.heap.size+2<X.heap.size:=by omega
 have HX:ax (((W.alloc (aM #[aj (aO S)] 42)).alloc (aM #[aj (aO ⟨L.fb i,0,aN⟩)] 78)).alloc (aM #[ai t] 9)=X):=hX;have HA:ax (bV aS W S s L/\Gl aS W/\au W W X/\s.bh[i]?=aO f):=⟨h,hg,mg,hf⟩
 obtain⟨T,hT⟩:=ee (s.cQ f)
 rw[<- hT]at lz;have HE:ax (s.eh f t=(if t.data.toList=T.data.toList then 0 else if f.bm.data.toList=[]then 0 else dg (bH s.all).1 (dW s.bA ⟨f.bm,1,t,aH⟩) (cZ s.up ⟨f.bm,1,t,aH⟩).length)/\s.eT i f t=(if t.data.toList=T.data.toList then s else if f.bm.data.toList=[]then s.dQ i { f with text:=t }else s.di (cZ s.up ⟨f.bm,1,t,aH⟩) s.cq)):=by rw[hT];exact⟨rfl,rfl⟩
 clear hX q0 q1 q2 h hg hf mg hT hk;by_cases hq:t.data.toList=T.data.toList
 ·have he:(t.toList == T.toList)=aI:=by rw[bq,bq,hq];simp
  rw[HE.1,HE.2,aY hq,aY hq];go_enter func150,ntmps150;go_wp2;rw[HX.out];go_region_held3 (fun w'=>w'.cell? ⟨↑W+2,0,aN⟩=aO (ai t)/\w'.cell? W=aO (aj (aO S))/\w'.cell? ⟨↑W+1,0,aN⟩=aO (aj (aO ⟨L.fb i,0,aN⟩))) (go_keep) (first|(go_at_call 129;refine(lz _ (aR _ _).drew).mono ?_;clear lz;rintro r w7 ⟨rfl,ie⟩;have ie:au X X w7:=((aR _ _).drew).trans ie;have z0:=(ie.cell (p:=⟨↑W+2,0,aN⟩) l2).trans b2;have z1:=(ie.cell (p:=W) l0).trans b0;have z2:=(ie.cell (p:=⟨↑W+1,0,aN⟩) l1).trans b1));go_wp2;go_ret2;exact⟨_,_,rfl,Below.bK HA.2.2.1 ie,fun _=>⟨enters_of func194 (by kernel_rfl) rfl,VQ⟩⟩
 ·have he:(t.toList == T.toList)=aH:=by rw[bq,bq];simpa using hq
  rw[aW hq,aW hq]at HE;go_enter func150,ntmps150;go_wp2;rw[HX.out];go_region_held3 (fun w'=>w'.cell? ⟨↑W+2,0,aN⟩=aO (ai t)/\w'.cell? W=aO (aj (aO S))/\w'.cell? ⟨↑W+1,0,aN⟩=aO (aj (aO ⟨L.fb i,0,aN⟩))) (go_keep) (first|(go_at_call 129;refine(lz _ (aR _ _).drew).mono ?_;clear lz;rintro r w7 ⟨rfl,ie⟩;have ie:au X X w7:=((aR _ _).drew).trans ie;have z0:=(ie.cell (p:=⟨↑W+2,0,aN⟩) l2).trans b2;have z1:=(ie.cell (p:=W) l0).trans b0;have z2:=(ie.cell (p:=⟨↑W+1,0,aN⟩) l1).trans b1));have c0:=(ie.cell (p:=⟨L.fb i,0,aN⟩) lF).trans c0;have WZ:au W W w7:=Below.bK HA.2.2.1 ie;have RP:W.heap.size<w7.heap.size:=aZ l0 ie.size;have Uj:W.heap.size+1<w7.heap.size:=aZ l1 ie.size;have hTX:W.heap.size+2<w7.heap.size:=aZ l2 ie.size;have hIX:L.fb i<w7.heap.size:=aZ lF ie.size;clear b0 b1 b2 ie l0 l1 l2 lF;have b0:=z1;have b1:=z2;have b2:=z0;clear z0 z1 z2;by_cases hp:f.bm.data.toList=[]
  ·have BU:f.bm=⟨#[]⟩:=fV hp
   rw[aY hp,aY hp]at HE;rw[BU]at c0;go_wp2;go_ret2;rw[HE.1,HE.2];exact⟨_,_,rfl,WZ,fun _=>⟨enters_of func195 (by kernel_rfl) rfl,VR (by omega) (by omega) HA.2.2.2 b2 b1⟩⟩
  ·have BU:f.bm.toList.isEmpty=aH:=by
    rw[bq];simpa using hp
   rw[aW hp,aW hp]at HE;go_wp2;obtain⟨s0,s1,_⟩:=(HA.1.bB WZ).cells;have Vs:S<w7.heap.size:=(HA.1.bB WZ).lt;obtain⟨yn,ku⟩:=ee L.y.es.length
   obtain⟨ln,ka⟩:=ee L.lo.length
   obtain⟨ae,qd⟩:=ee (dg (bH s.all).1 (dW s.bA ⟨f.bm,1,t,aH⟩) (cZ s.up ⟨f.bm,1,t,aH⟩).length)
   have HN:ax (yn=L.y.es.length/\ln=L.lo.length):=⟨ku,ka⟩
   rw[<- ku]at s0;rw[<- ka]at s1;have ZI:ax (s.eh f t=ae/\s.eT i f t=s.di (cZ s.up ⟨f.bm,1,t,aH⟩) s.cq):=⟨HE.1.trans qd.symm,HE.2⟩
   have IB:au W W w7:=WZ;generalize w7=X at *;have kG:∀ Y,au X X Y->ay aP 77 #[ar #[ah L.y.ad yn L.y.cap,ah L.pl ln L.cl],ar #[ai f.bm,aa ag 1,ai t,aq aH]] Y (QW Y ae (if ae=0 then cZ s.up ⟨f.bm,1,t,aH⟩else[]) (if ae=0 then s.cq else[])):=fun Y hY=>by
    obtain⟨m',O8⟩:=(HA.2.1.bB ((Below.bK WZ hY).mono eD)).2;rw[ku,ka];refine(uB L.y L.lo m' L.pl L.cl ⟨f.bm,1,t,aH⟩ (by show f.bm.size<=_;unfold maxLen;omega) (by show f.bm.size<_;omega) ht Y ((HA.1.bB WZ).bB hY).data.now.un O8).mono fun r w' h=>?_
    have h:=h.Tm;have BO:ae=dg (bH (s.up::s.cq)).1 (dW (cO (s.up::s.cq)) ⟨f.bm,1,t,aH⟩) (cZ s.up ⟨f.bm,1,t,aH⟩).length:=qd;rw[HA.1.up,HA.1.low,<- BO]at h;exact h
   have HC:ax (au W W X/\(ae=0->(bH (cZ s.up ⟨f.bm,1,t,aH⟩::s.cq)).1=0)):=⟨WZ,fun h=>(oB (show dg (bH (s.up::s.cq)).1 _ _=0 from qd.symm.trans h)).1⟩
   have n1:=World.new_ne X ⟨S,0,aN⟩ s0;have n2:=World.new_ne X ⟨W,0,aN⟩ b0;have n3:=World.new_ne X ⟨↑W+1,0,aN⟩ b1;have n4:=World.new_ne X ⟨↑W+2,0,aN⟩ b2;have n5:=World.new_ne X ⟨L.fb i,0,aN⟩ c0;clear ku ka qd HE WZ IB;by_cases hz:ae=0
   ·subst hz
    simp only[mU]at kG;go_region_held3 (fun w'=>w'.cell? W=aO (aj (aO S))/\w'.cell? S=aO (ah L.y.ad yn L.y.cap)/\w'.cell? ⟨S,1,aN⟩=aO (ah L.pl ln L.cl)/\w'.cell? ⟨(W.heap.size+1),0,aN⟩=aO (aj (aO ⟨L.fb i,0,aN⟩))/\w'.cell? ⟨L.fb i,0,aN⟩=aO (ai f.bm)/\w'.cell? ⟨(W.heap.size+2),0,aN⟩=aO (ai t)) (go_keep) (first
     | (go_at_call 77;refine(kG _ (aR _ _).drew).mono ?_;clear kG;rintro r w7 ⟨y,lo,pl,cl,D6,tK,rfl,H7⟩;have ie:au X X w7:=((aR _ _).drew).trans H7.2.2.2.2.2.1;have z0:=(ie.cell (p:=W) RP).trans b0;have z1:=(ie.cell (p:=S) Vs).trans s0;have z2:=(ie.cell (p:=⟨S,1,aN⟩) Vs).trans s1;have z3:=(ie.cell (p:=⟨(W.heap.size+1),0,aN⟩) Uj).trans b1;have z4:=(ie.cell (p:=⟨L.fb i,0,aN⟩) hIX).trans c0;have z5:=(ie.cell (p:=⟨(W.heap.size+2),0,aN⟩) hTX).trans b2)
     | (go_at_call 77;refine(kG _ (((aR _ _).alloc (aV _) _).drew)).mono ?_;clear kG;rintro r w7 ⟨y,lo,pl,cl,D6,tK,rfl,H7⟩;have ie:au X X w7:=(((aR _ _).alloc (aV _) _).drew).trans (H7.2.2.2.2.2.1.mono (by rw[show ∀ o,(X.alloc o).drew.heap.size=X.heap.size+1 from fun o=>cE X o];omega));have z0:=(ie.cell (p:=W) RP).trans b0;have z1:=(ie.cell (p:=S) Vs).trans s0;have z2:=(ie.cell (p:=⟨S,1,aN⟩) Vs).trans s1;have z3:=(ie.cell (p:=⟨(W.heap.size+1),0,aN⟩) Uj).trans b1;have z4:=(ie.cell (p:=⟨L.fb i,0,aN⟩) hIX).trans c0;have z5:=(ie.cell (p:=⟨(W.heap.size+2),0,aN⟩) hTX).trans b2;obtain⟨⟨x0,x1⟩,⟨f0,f1⟩⟩:=nw (w:=X) (B:=X.heap.size+1) (bC _) (((aR _ _).drew).trans (H7.2.2.2.2.2.1.mono (rP (cE X _).symm)))))
    ·have HF:ax (oK aS S s L 0 (s.di (cZ s.up ⟨f.bm,1,t,aH⟩) s.cq) W (aK (aL #[.func (.func 196) #[] #[aj (aO W),aj (aO w7)],aa ag 0])) (w7.alloc (aM #[ah y.ad D6 y.cap,ah pl tK cl] 26))):=by
      obtain⟨r1,r2,r3,r4,r5,r6,r7⟩:=H7.out;subst r1 r2;have Ee:au w7 w7 (w7.alloc (aM #[ah y.ad y.es.length y.cap,ah pl lo.length cl] 26)):=((Grown.refl w7).alloc _).below;have mg:au X X (w7.alloc (aM #[ah y.ad y.es.length y.cap,ah pl lo.length cl] 26)):=Below.bK ie Ee;have hUB:uE (w7.alloc (aM #[ah y.ad y.es.length y.cap,ah pl lo.length cl] 26)) w7 y lo pl cl:=⟨by simp,by simp⟩
      have hST:St (fun b=>b<W.heap.size) (w7.alloc (aM #[ah y.ad y.es.length y.cap,ah pl lo.length cl] 26)) (fun X=>eZ X y lo pl cl):=St.on (eZ.st r5 r7 (fun b hb=>aZ hb HC.1.size)) (cA.dB _ Ee);have hlB:W.heap.size<=w7.heap.size:=bc HC.1.size ie.size;exact⟨_,_,rfl,Below.bK HC.1 mg,fun _=>⟨enters_of func196 (by kernel_rfl) rfl,NA (aV _) hlB ((mg.cell (p:=W) RP).trans b0) hUB hST r3 r4 (HC.2 (by trivial))⟩⟩
     clear H7 ie;go_wp2;go_ret2;rw[ZI.1,ZI.2];exact HF.out
    ·have HF:ax (oK aS S s L 0 (s.di (cZ s.up ⟨f.bm,1,t,aH⟩) s.cq) W (aK (aL #[.func (.func 196) #[] #[aj (aO W),aj (aO X)],aa ag 0])) ((w7.setCell X (ah y.ad D6 y.cap)).setCell ⟨X,1,aN⟩ (ah pl tK cl))):=by
      obtain⟨r1,r2,r3,r4,r5,r6,r7⟩:=H7.out;subst r1 r2;have Sz:∀ o,(X.alloc o).drew.heap.size=X.heap.size+1:=fun o=>cE X o
      have hbx:w7.heap[X.heap.size]?=aO (aM #[ah aN 0 0,ah aN 0 0] 26):=(r6.block _ (by rw[Sz];omega)).trans (heap_alloc_last X _);have k2:=dZ (dZ hbx 0 (ah y.ad y.es.length y.cap)) 1 (ah pl lo.length cl);have mg:au X.heap.size X ((w7.setCell ⟨X.heap.size,0,aN⟩ (ah y.ad y.es.length y.cap)).setCell ⟨X.heap.size,1,aN⟩ (ah pl lo.length cl)):=(ie.setCell (p:=⟨X.heap.size,0,aN⟩) (aV _) _).setCell (p:=⟨X.heap.size,1,aN⟩) (aV _) _;have kQ:St (fun b=>b<W.heap.size\/b=X.heap.size) w7 (fun X=>eZ X y lo pl cl):=eZ.st r5 r7 (fun b hb=>by
       rw[Sz];rcases hb with hb|rfl
       ·have h1:=hb;have h2:=HC.1.size;omega
       ·omega)
      have hUB:uE ((w7.setCell X (ah y.ad y.es.length y.cap)).setCell ⟨X,1,aN⟩ (ah pl lo.length cl)) X y lo pl cl:=⟨by simp[World.cell?,k2],by simp[World.cell?,k2]⟩
      have hST:St (fun b=>b<W.heap.size) ((w7.setCell ⟨X.heap.size,0,aN⟩ (ah y.ad y.es.length y.cap)).setCell ⟨X.heap.size,1,aN⟩ (ah pl lo.length cl)) (fun X=>eZ X y lo pl cl):=St.more (St.on kQ ((cA.set (.inr rfl) _ 0 _).trans (cA.set (.inr rfl) _ 1 _))) (fun b _ hb=>.inl hb);have hlB:W.heap.size<=X.heap.size:=HC.1.size;exact⟨_,_,rfl,Below.bK HC.1 mg,fun _=>⟨enters_of func196 (by kernel_rfl) rfl,NA (aV _) hlB ((mg.cell (p:=W) RP).trans b0) hUB hST r3 r4 (HC.2 (by trivial))⟩⟩
     clear H7 ie;go_wp2;go_ret2;rw[ZI.1,ZI.2];exact HF.out
   ·rw[aW hz,aW hz]at kG
    go_region_held3 (fun w'=>w'.cell? W=aO (aj (aO S))/\w'.cell? S=aO (ah L.y.ad yn L.y.cap)/\w'.cell? ⟨S,1,aN⟩=aO (ah L.pl ln L.cl)/\w'.cell? ⟨(W.heap.size+1),0,aN⟩=aO (aj (aO ⟨L.fb i,0,aN⟩))/\w'.cell? ⟨L.fb i,0,aN⟩=aO (ai f.bm)/\w'.cell? ⟨(W.heap.size+2),0,aN⟩=aO (ai t)) (go_keep) (first
     | (go_at_call 77;refine(kG _ (aR _ _).drew).mono ?_;clear kG;rintro r w7 ⟨y,lo,pl,cl,D6,tK,rfl,H7⟩;have ie:au X X w7:=((aR _ _).drew).trans H7.2.2.2.2.2.1;have z0:=(ie.cell (p:=W) RP).trans b0;have z1:=(ie.cell (p:=S) Vs).trans s0;have z2:=(ie.cell (p:=⟨S,1,aN⟩) Vs).trans s1;have z3:=(ie.cell (p:=⟨(W.heap.size+1),0,aN⟩) Uj).trans b1;have z4:=(ie.cell (p:=⟨L.fb i,0,aN⟩) hIX).trans c0;have z5:=(ie.cell (p:=⟨(W.heap.size+2),0,aN⟩) hTX).trans b2)
     | (go_at_call 77;refine(kG _ (((aR _ _).alloc (aV _) _).drew)).mono ?_;clear kG;rintro r w7 ⟨y,lo,pl,cl,D6,tK,rfl,H7⟩;have ie:au X X w7:=(((aR _ _).alloc (aV _) _).drew).trans (H7.2.2.2.2.2.1.mono (by rw[show ∀ o,(X.alloc o).drew.heap.size=X.heap.size+1 from fun o=>cE X o];omega));have z0:=(ie.cell (p:=W) RP).trans b0;have z1:=(ie.cell (p:=S) Vs).trans s0;have z2:=(ie.cell (p:=⟨S,1,aN⟩) Vs).trans s1;have z3:=(ie.cell (p:=⟨(W.heap.size+1),0,aN⟩) Uj).trans b1;have z4:=(ie.cell (p:=⟨L.fb i,0,aN⟩) hIX).trans c0;have z5:=(ie.cell (p:=⟨(W.heap.size+2),0,aN⟩) hTX).trans b2;obtain⟨⟨x0,x1⟩,⟨f0,f1⟩⟩:=nw (w:=X) (B:=X.heap.size+1) (bC _) (((aR _ _).drew).trans (H7.2.2.2.2.2.1.mono (rP (cE X _).symm)))))
    ·have HF:ax (au W W (w7.alloc (aM #[ah y.ad D6 y.cap,ah pl tK cl] 26))):=by
      have h1:=Below.bK HC.1 ie;exact h1.alloc h1.size _
     clear H7 ie;go_wp2;go_ret2;rw[ZI.1];exact oK.no _ _ hz HF.out
    ·have HF:ax (au W W ((w7.setCell X (ah y.ad D6 y.cap)).setCell ⟨X,1,aN⟩ (ah pl tK cl))):=Below.bK HC.1 ((ie.setCell (p:=X) (aV _) _).setCell (p:=⟨X,1,aN⟩) (aV _) _)
     clear H7 ie;go_wp2;go_ret2;rw[ZI.1];exact oK.no _ _ hz HF.out
namespace PM
noncomputable def Sy.nV(s:Sy)(o:qI)(f:Fl)(n:aF):aF:=if(bits BinOp.and IntKind.i64 o.use 2 == 0)=aI then 8 else if n<0\/100<n then 3 else s.eh f (fI (s.cQ f) n)
end PM
theorem EU{X:aw}{b:aE}(h:X.heap[b]?=W.heap[b]?)(i:aE):X.frozen? ⟨b,i,aN⟩=W.frozen? ⟨b,i,aN⟩:=by simp[World.frozen?,h]
theorem Cg{s s':Sy}(h:bV aS W S s L)(hg:Gl aS W)(hn:kO s s'){Y0 w5:aw}{B:aE}{g:FuncId}{cap:Array az}(hY:au W W Y0)(fA:au Y0 Y0 w5)(hK:cA (fun b=>b<Y0.heap.size) w5 Wf)(G6:au W W Wf)(kV:Wf.cell? B=aO (.func (.func g) #[] cap))(H5:(∀ args w,(callFunc g args).run aP w=.ok (.enter g args) w)/\zU aS S s s' L g cap Y0 w5):cF aS S s L 0 s' (gz 0 ⟨#[]⟩) W (aK (aL #[.func (.func 152) #[] #[aj (aO B)],aa ag 0])) Wf:=by
 obtain⟨eg,Z8⟩:=H5;have hf:=h.bB G6;have eD:=bc h.aS.1 (bM h.lt);have hA:∀ o,au Wf Wf (Wf.alloc o):=fun o=>((Grown.refl Wf).alloc o).below
 refine⟨_,rfl,G6,fun _=>⟨_,_,rfl,enters_of func152 (by kernel_rfl) rfl,aaW hf hn B g cap eg kV (Z8 _ _ (hf.aside _) (hK.trans (cA.dB _ (hA _))) rfl rfl (fun b hb=>?_) (hg.bB ((Below.bK G6 (hA _)).mono eD)))⟩⟩;have hz:=hK.size;rcases hb with(e|(e|hx))|hs
 ·have:=h.lt;have:=hY.size;left;omega
 ·right;rw[e];exact hz
 ·have:=(h.wF b hx).2;have:=hY.size;left;omega
 ·have:=(h.od (.inr hs)).2;have:=hY.size;left;omega
theorem KF{s:Sy}(h:bV aS W S s L)(hg:Gl aS W)(j:aE)(o:qI)(f:Fl)(n:aF)(ho:s.bJ[j]?=aO o)(hf:s.bh[o.cM]?=aO f)(x6:f.bm.size<=80)(qF:(s.cQ f).size<=100)(hu:(bits BinOp.and IntKind.i64 o.use 2 == 0)=aH)(IL:¬ n<0)(Ge:¬ 100<n):ay aP 96 #[aj (aO S),aj (aO ⟨L.ob j,0,aN⟩),aa ag n] W (cF aS S s L (s.eh f (fI (s.cQ f) n)) (s.eT o.cM f (fI (s.cQ f) n)) (gz 0 ⟨#[]⟩) W):=by
 have eD:aS<=W.heap.size:=bc h.aS.1 (bM h.lt);obtain⟨⟨c0,c1,_⟩,_⟩:=h.oW ho;have lO:=h.Cs (aQ.1 ho).1;have lz:=fun Y (hY:au W.heap.size W Y)=>wk h hf x6 Y hY
 have x9:=fun Y=>Fu (s.cQ f) n (by omega) (by omega) (by omega) Y
 have iL:(fI (s.cQ f) n).size<=maxLen:=by have:=mQ (s.cQ f) n (by omega);unfold maxLen;omega
 have zR:=fun Y (hY:au W.heap.size W Y)=>A5 (h.bB hY) (hg.bB (hY.mono eD)) o.cM f hf x6 (fI (s.cQ f) n) iL
 have HN:ax (kO s (s.eT o.cM f (fI (s.cQ f) n))):=kO.keep _ _ _ _;have HA:ax (bV aS W S s L/\Gl aS W):=⟨h,hg⟩
 generalize s.eh f (fI (s.cQ f) n)=ke at zR ⊢;generalize s.eT o.cM f (fI (s.cQ f) n)=s' at zR HN ⊢;generalize fI (s.cQ f) n=T2 at x9 zR;generalize s.cQ f=T at lz x9;have n1:=World.new_ne W ⟨L.ob j,0,aN⟩ c0;have n1':¬ L.ob j=W.heap.size:=fun e=>n1 e.symm
 have QA:=fun w a m f b c=>NL aP w a m f b c
 clear h hg ho hf x6 qF iL;by_cases hz:ke=0
 ·subst hz
  go_enter func96,ntmps96;go_wp2;go_region_held3 (fun w'=>w'.cell? ⟨L.ob j,0,aN⟩=aO (aj (aO ⟨L.fb o.cM,0,aN⟩))) (go_keep) (first
   | (go_at_call 129;first|(refine(lz _ (aR _ _).drew).mono ?_;clear lz;rintro r w3 ⟨rfl,eG⟩;have xU:au W W w3:=((aR _ _).drew).trans eG;have z3:=(xU.cell (p:=⟨L.ob j,0,aN⟩) lO).trans c0;have e3:¬ w3.heap.size=L.ob j:=(by have:=xU.size;omega);have e3':¬ L.ob j=w3.heap.size:=(fun e=>e3 e.symm))|(refine(lz _ ((aR _ _).alloc (aV _) _).drew).mono ?_;clear lz;rintro r w3 ⟨rfl,eG⟩;have k1:w3.heap[W.heap.size]?=aO (aM #[.nilFunc] 1):=(eG.block _ (by show W.heap.size<(W.alloc _).heap.size;simp)).trans (heap_alloc_last W _);have xU:au W W w3:=Below.bK ((aR _ _).alloc (aV _) _).drew eG;have z3:=(xU.cell (p:=⟨L.ob j,0,aN⟩) lO).trans c0;have e3:¬ w3.heap.size=L.ob j:=(by have:=xU.size;omega);have e3':¬ L.ob j=w3.heap.size:=(fun e=>e3 e.symm);have x1:w3.cell? W=aO .nilFunc:=(by simp[World.cell?,k1]);have y1:w3.frozen? W=aH:=(by simp[World.frozen?,k1])))
   | (go_at_call 149;refine(x9 _).mono ?_;clear x9;rintro r w4 ⟨rfl,eO⟩;first|(have se:au W W w4:=Below.bK xU eO;have z4:=(se.cell (p:=⟨L.ob j,0,aN⟩) lO).trans c0;have e4:¬ w4.heap.size=L.ob j:=(by have:=se.size;omega);have e4':¬ L.ob j=w4.heap.size:=(fun e=>e4 e.symm);try (have k2:w4.heap[W.heap.size]?=aO (aM #[.nilFunc] 1):=(eO.block _ (aX.1 k1).1).trans k1;have x2:w4.cell? W=aO .nilFunc:=(by simp[World.cell?,k2]);have y2:w4.frozen? W=aH:=(by simp[World.frozen?,k2])))|(have k2:w4.heap[w3.heap.size]?=aO (aM #[.nilFunc] 1):=(eO.block _ (by simp)).trans (heap_alloc_last w3 _);have se:au W W w4:=Below.bK xU (Below.bK ((Grown.refl w3).alloc _).below eO);have z4:=(se.cell (p:=⟨L.ob j,0,aN⟩) lO).trans c0;have e4:¬ w4.heap.size=L.ob j:=(by have:=se.size;omega);have e4':¬ L.ob j=w4.heap.size:=(fun e=>e4 e.symm);have x2:w4.cell? w3=aO .nilFunc:=(by simp[World.cell?,k2]);have y2:w4.frozen? w3=aH:=(by simp[World.frozen?,k2])))
   | (go_at_call 150;first|(refine(zR _ se).mono ?_;clear zR;rintro r w5 ⟨g,cap,rfl,fA,vq⟩;have H5:=(show ax _ from vq);clear vq;have KU:au W W w5:=Below.bK se fA;have z5:=(KU.cell (p:=⟨L.ob j,0,aN⟩) lO).trans c0;try (have k3:=(fA.block _ (aX.1 k2).1).trans k2;have x3:=(gY (fA.block _ (aX.1 k2).1) 0).trans x2;have y3:=(EU (fA.block _ (aX.1 k2).1) 0).trans y2))|(refine(zR _ (Below.bK se ((Grown.refl w4).alloc _).below)).mono ?_;clear zR;rintro r w5 ⟨g,cap,rfl,fA,vq⟩;have H5:=(show ax _ from vq);clear vq;have k3:w5.heap[w4.heap.size]?=aO (aM #[.nilFunc] 1):=(fA.block _ (by simp)).trans (heap_alloc_last w4 _);have KU:au W W w5:=Below.bK se (Below.bK ((Grown.refl w4).alloc _).below fA);have z5:=(KU.cell (p:=⟨L.ob j,0,aN⟩) lO).trans c0;have x3:w5.cell? w4=aO .nilFunc:=(by simp[World.cell?,k3]);have y3:w5.frozen? w4=aH:=(by simp[World.frozen?,k3]))))
  all_goals first
   | (have HF : ax (cF aS S s L 0 s' (gz 0 ⟨#[]⟩) W (aK (aL #[.func (.func 152) #[] #[aj (aO W)],aa ag 0])) (w5.setCell W (.func (.func g) #[] cap))):=Cg HA.1 HA.2 HN.out se fA (cA.set (sp:=fun b => b < w4.heap.size) (P:=W.heap.size) (by have:=xU.size;have:=se.size;have:=eO.size;first|exact(aX.1 k2).1|simp) _ 0 (.func (.func g) #[] cap)) (KU.setCell (p:=W) (by have:=xU.size;have:=se.size;show W.heap.size <= W.heap.size;omega) _) (by have k4:=dZ k3 0 (.func (.func g) #[] cap);simp[World.cell?,k4]) (H5.out (by trivial))
      clear H5 fA eO eG;go_wp2;go_ret2;exact HF.out)
   | (have HF : ax (cF aS S s L 0 s' (gz 0 ⟨#[]⟩) W (aK (aL #[.func (.func 152) #[] #[aj (aO w3)],aa ag 0])) (w5.setCell w3 (.func (.func g) #[] cap))):=Cg HA.1 HA.2 HN.out se fA (cA.set (sp:=fun b => b < w4.heap.size) (P:=w3.heap.size) (by have:=xU.size;have:=se.size;have:=eO.size;first|exact(aX.1 k2).1|simp) _ 0 (.func (.func g) #[] cap)) (KU.setCell (p:=w3) (by have:=xU.size;have:=se.size;show W.heap.size <= w3.heap.size;omega) _) (by have k4:=dZ k3 0 (.func (.func g) #[] cap);simp[World.cell?,k4]) (H5.out (by trivial))
      clear H5 fA eO eG;go_wp2;go_ret2;exact HF.out)
   | (have HF : ax (cF aS S s L 0 s' (gz 0 ⟨#[]⟩) W (aK (aL #[.func (.func 152) #[] #[aj (aO w4)],aa ag 0])) (w5.setCell w4 (.func (.func g) #[] cap))):=Cg HA.1 HA.2 HN.out (Below.bK se ((Grown.refl w4).alloc _).below) fA (cA.set (sp:=fun b => b < (w4.alloc (aM #[.nilFunc] 1)).heap.size) (P:=w4.heap.size) (by have:=xU.size;have:=se.size;have:=eO.size;first|exact(aX.1 k2).1|simp) _ 0 (.func (.func g) #[] cap)) (KU.setCell (p:=w4) (by have:=xU.size;have:=se.size;show W.heap.size <= w4.heap.size;omega) _) (by have k4:=dZ k3 0 (.func (.func g) #[] cap);simp[World.cell?,k4]) (H5.out (by trivial))
      clear H5 fA eO eG;go_wp2;go_ret2;exact HF.out)
   | (have HF : ax (cF aS S s L 0 s' (gz 0 ⟨#[]⟩) W (aK (aL #[.func (.func 152) #[] #[aj (aO w5)],aa ag 0])) (w5.alloc (aM #[.func (.func g) #[] cap] 1))):=Cg HA.1 HA.2 HN.out se fA (cA.dB _ ((Grown.refl w5).alloc _).below) (Below.bK KU ((Grown.refl w5).alloc _).below) (by simp) (H5.out (by trivial))
      clear H5 fA eO eG;go_wp2;go_ret2;exact HF.out)
 ·have hne:(ke != 0)=aI:=by simpa using hz
  go_enter func96,ntmps96;go_wp2;go_region_held3 (fun w'=>w'.cell? ⟨L.ob j,0,aN⟩=aO (aj (aO ⟨L.fb o.cM,0,aN⟩))) (go_keep) (first
   | (go_at_call 129;first|(refine(lz _ (aR _ _).drew).mono ?_;clear lz;rintro r w3 ⟨rfl,eG⟩;have xU:au W W w3:=((aR _ _).drew).trans eG;have z3:=(xU.cell (p:=⟨L.ob j,0,aN⟩) lO).trans c0;have e3:¬ w3.heap.size=L.ob j:=(by have:=xU.size;omega);have e3':¬ L.ob j=w3.heap.size:=(fun e=>e3 e.symm))|(refine(lz _ ((aR _ _).alloc (aV _) _).drew).mono ?_;clear lz;rintro r w3 ⟨rfl,eG⟩;have k1:w3.heap[W.heap.size]?=aO (aM #[.nilFunc] 1):=(eG.block _ (by show W.heap.size<(W.alloc _).heap.size;simp)).trans (heap_alloc_last W _);have xU:au W W w3:=Below.bK ((aR _ _).alloc (aV _) _).drew eG;have z3:=(xU.cell (p:=⟨L.ob j,0,aN⟩) lO).trans c0;have e3:¬ w3.heap.size=L.ob j:=(by have:=xU.size;omega);have e3':¬ L.ob j=w3.heap.size:=(fun e=>e3 e.symm);have x1:w3.cell? W=aO .nilFunc:=(by simp[World.cell?,k1]);have y1:w3.frozen? W=aH:=(by simp[World.frozen?,k1])))
   | (go_at_call 149;refine(x9 _).mono ?_;clear x9;rintro r w4 ⟨rfl,eO⟩;first|(have se:au W W w4:=Below.bK xU eO;have z4:=(se.cell (p:=⟨L.ob j,0,aN⟩) lO).trans c0;have e4:¬ w4.heap.size=L.ob j:=(by have:=se.size;omega);have e4':¬ L.ob j=w4.heap.size:=(fun e=>e4 e.symm);try (have k2:w4.heap[W.heap.size]?=aO (aM #[.nilFunc] 1):=(eO.block _ (aX.1 k1).1).trans k1;have x2:w4.cell? W=aO .nilFunc:=(by simp[World.cell?,k2]);have y2:w4.frozen? W=aH:=(by simp[World.frozen?,k2])))|(have k2:w4.heap[w3.heap.size]?=aO (aM #[.nilFunc] 1):=(eO.block _ (by simp)).trans (heap_alloc_last w3 _);have se:au W W w4:=Below.bK xU (Below.bK ((Grown.refl w3).alloc _).below eO);have z4:=(se.cell (p:=⟨L.ob j,0,aN⟩) lO).trans c0;have e4:¬ w4.heap.size=L.ob j:=(by have:=se.size;omega);have e4':¬ L.ob j=w4.heap.size:=(fun e=>e4 e.symm);have x2:w4.cell? w3=aO .nilFunc:=(by simp[World.cell?,k2]);have y2:w4.frozen? w3=aH:=(by simp[World.frozen?,k2])))
   | (go_at_call 150;first|(refine(zR _ se).mono ?_;clear zR;rintro r w5 ⟨g,cap,rfl,fA,vq⟩;have H5:=(show ax _ from vq);clear vq;have KU:au W W w5:=Below.bK se fA;have z5:=(KU.cell (p:=⟨L.ob j,0,aN⟩) lO).trans c0;try (have k3:=(fA.block _ (aX.1 k2).1).trans k2;have x3:=(gY (fA.block _ (aX.1 k2).1) 0).trans x2;have y3:=(EU (fA.block _ (aX.1 k2).1) 0).trans y2))|(refine(zR _ (Below.bK se ((Grown.refl w4).alloc _).below)).mono ?_;clear zR;rintro r w5 ⟨g,cap,rfl,fA,vq⟩;have H5:=(show ax _ from vq);clear vq;have k3:w5.heap[w4.heap.size]?=aO (aM #[.nilFunc] 1):=(fA.block _ (by simp)).trans (heap_alloc_last w4 _);have KU:au W W w5:=Below.bK se (Below.bK ((Grown.refl w4).alloc _).below fA);have z5:=(KU.cell (p:=⟨L.ob j,0,aN⟩) lO).trans c0;have x3:w5.cell? w4=aO .nilFunc:=(by simp[World.cell?,k3]);have y3:w5.frozen? w4=aH:=(by simp[World.frozen?,k3]))))
  all_goals first
   | (have HF : ax (au W W (w5.setCell W (.func (.func g) #[] cap))):=KU.setCell (p:=W) (by have:=xU.size;have:=se.size;show W.heap.size <= W.heap.size;omega) _
      clear H5 fA eO eG;go_wp2;go_ret2;exact cF.no _ hz HF.out)
   | (have HF : ax (au W W (w5.setCell w3 (.func (.func g) #[] cap))):=KU.setCell (p:=w3) (by have:=xU.size;have:=se.size;show W.heap.size <= w3.heap.size;omega) _
      clear H5 fA eO eG;go_wp2;go_ret2;exact cF.no _ hz HF.out)
   | (have HF : ax (au W W (w5.setCell w4 (.func (.func g) #[] cap))):=KU.setCell (p:=w4) (by have:=xU.size;have:=se.size;show W.heap.size <= w4.heap.size;omega) _
      clear H5 fA eO eG;go_wp2;go_ret2;exact cF.no _ hz HF.out)
   | (have HF : ax (au W W (w5.alloc (aM #[.func (.func g) #[] cap] 1))):=Below.bK KU ((Grown.refl w5).alloc _).below
      clear H5 fA eO eG;go_wp2;go_ret2;exact cF.no _ hz HF.out)
theorem MF{s:Sy}(h:bV aS W S s L)(hg:Gl aS W)(j:aE)(o:qI)(f:Fl)(n:aF)(ho:s.bJ[j]?=aO o)(hf:s.bh[o.cM]?=aO f)(x6:f.bm.size<=80)(qF:(s.cQ f).size<=100):ay aP 96 #[aj (aO S),aj (aO ⟨L.ob j,0,aN⟩),aa ag n] W (cF aS S s L (s.nV o f n) (s.eT o.cM f (fI (s.cQ f) n)) (gz 0 ⟨#[]⟩) W):=by
 unfold Sy.nV;obtain⟨⟨c0,c1,c2⟩,f2⟩:=h.oW ho;cases hu:(bits BinOp.and IntKind.i64 o.use 2 == 0)with
 | true =>rw[aY rfl];clear h hg ho hf;go_enter func96,ntmps96;go_wp2;go_ret2;exact cF.no _ (by decide) (aR _ _)
 | false=>
  rw[aW (by simp)];by_cases h1:n<0
  ·rw[aY (.inl h1)]
   clear h hg ho hf;go_enter func96,ntmps96;go_wp2;go_ret2;exact cF.no _ (by decide) (aR _ _)
  by_cases h2:100<n
  ·rw[aY (.inr h2)]
   clear h hg ho hf;go_enter func96,ntmps96;go_wp2;go_ret2;exact cF.no _ (by decide) (aR _ _)
  rw[aW (by omega)];exact KF h hg j o f n ho hf x6 qF hu h1 h2
namespace PM
def Sy.pz(s:Sy)(o:qI)(f:Fl):aF:=if(bits BinOp.and IntKind.i64 o.use 4 != 0)=aI then((s.cQ f).size:aF)else o.pos
def js(now tx:aA)(pos:aF):aA:=if tx.data.toList=[]then now else fI now pos++tx++now.extract (min (pos+tx.size) now.size).toNat now.size
noncomputable def Sy.sA(s:Sy)(o:qI)(f:Fl)(tx:aA):aF:=if(bits BinOp.and IntKind.i64 o.use 2 == 0)=aI then 8 else if ¬ tx.data.toList=[]/\100<s.pz o f+tx.size then 4 else s.eh f (js (s.cQ f) tx (s.pz o f))
def Sy.wo(s:Sy)(j:aE)(o:qI)(f:Fl)(tx:aA):Sy:=(s.eT o.cM f (js (s.cQ f) tx (s.pz o f))).jw j { o with pos:=s.pz o f+tx.size }
theorem pP(s:Sy)(i:aE)(f:Fl)(t:aA):(s.eT i f t).bJ=s.bJ:=by
 unfold Sy.eT;split
 ·rfl
 ·split<;>rfl
end PM
theorem wZ{s s':Sy}(h:bV aS W S s L)(hg:Gl aS W)(hn:kO s s'){j:aE}{o:qI}(ho:s.bJ[j]?=aO o)(Cp:s'.bJ=s.bJ){w4 w5:aw}{Bk Be Bo Bt:aE}{g:FuncId}{cap:Array az}{e:aF}{tx:aA}(hY:au W W w4)(fA:au w4 w4 w5)(hK:au w5 w5 Wf)(l1:W<=Be)(l2:W<=Bo)(l3:W<=Bt)(kV:Wf.cell? Bk=aO (.func (.func g) #[] cap))(F7:Wf.cell? Be=aO (aa ag e))(F8:Wf.cell? Bo=aO (aj (aO ⟨L.ob j,0,aN⟩)))(J5:Wf.cell? Bt=aO (ai tx))(H5:(∀ args w,(callFunc g args).run aP w=.ok (.enter g args) w)/\zU aS S s s' L g cap w4 w5):cF aS S s L 0 (s'.jw j { o with pos:=e }) (gz tx.size ⟨#[]⟩) W (aK (aL #[.func (.func 151) #[] #[aj (aO Bk),aj (aO Be),aj (aO Bo),aj (aO Bt)],aa ag 0])) Wf:=by
 obtain⟨eg,Z8⟩:=H5;have G6:au W W Wf:=Below.bK (Below.bK hY fA) hK;have hf:=h.bB G6;have eD:aS<=W.heap.size:=bc h.aS.1 (bM h.lt);have hA:∀ o,au Wf Wf (Wf.alloc o):=fun o=>((Grown.refl Wf).alloc o).below
 refine⟨_,rfl,G6,fun _=>⟨_,_,rfl,enters_of func151 (by kernel_rfl) rfl,Wt hf hn Bk Be Bo Bt j o e tx g cap eg ho (by rw[Cp];exact ho) kV F7 F8 J5 (h.tW l1) (h.tW l2) (h.tW l3) (Z8 _ _ (hf.aside _) ((cA.dB _ hK).trans (cA.dB _ (hA _))) rfl rfl (fun b hb=>?_) (hg.bB ((Below.bK G6 (hA _)).mono eD)))⟩⟩;have hz:=hK.size;rcases hb with(e|(e|hx))|hs
 ·have:=h.lt;have:=hY.size;left;omega
 ·right;rw[e];exact hz
 ·have:=(h.wF b hx).2;have:=hY.size;left;omega
 ·have:=(h.od (.inr hs)).2;have:=hY.size;left;omega
theorem T9{s:Sy}(h:bV aS W S s L)(hg:Gl aS W)(j:aE)(o:qI)(f:Fl)(tx:aA)(Xi:tx.size<=140737488355328)(ho:s.bJ[j]?=aO o)(hf:s.bh[o.cM]?=aO f)(td:0<=o.pos)(D0:o.pos<=1000)(x6:f.bm.size<=80)(qF:(s.cQ f).size<=100)(hu:(bits BinOp.and IntKind.i64 o.use 2 == 0)=aH):ay aP 95 #[aj (aO S),aj (aO ⟨L.ob j,0,aN⟩),ai tx] W (cF aS S s L (if ¬ tx.data.toList=[]/\100<s.pz o f+tx.size then 4 else s.eh f (js (s.cQ f) tx (s.pz o f))) (s.wo j o f tx) (gz tx.size ⟨#[]⟩) W):=by
 obtain⟨X,hX⟩:=o7 ((W.alloc (aM #[aj (aO ⟨L.ob j,0,aN⟩)] 44)).alloc (aM #[ai tx] 9))
 have mg:au W W X:=by rw[<- hX];exact((aR _ _).alloc (aV _) _).alloc (by simp) _
 have Sw:X.heap.size=W.heap.size+2:=by rw[<- hX];simp
 have b0:X.cell? W=aO (aj (aO ⟨L.ob j,0,aN⟩)):=by simp[World.cell?,nB hX]
 have b1:X.cell? ⟨↑W+1,0,aN⟩=aO (ai tx):=by simp[World.cell?,jm hX]
 have eD:aS<=W.heap.size:=bc h.aS.1 (bM h.lt);have hk:=h.bB mg;obtain⟨⟨c0,c1,c2⟩,_⟩:=hk.oW ho;have lO:=hk.Cs (aQ.1 ho).1;have l0:W.heap.size<X.heap.size:=by omega
 have l1:W.heap.size+1<X.heap.size:=by omega
 have lz:=fun Y (hY:au X.heap.size X Y)=>wk hk hf x6 Y hY
 have x9:=fun Y (n:aF) (h0:0<=n) (h1:n<=1000)=>Fu (s.cQ f) n h0 h1 (by omega) Y
 have zR:=fun Y (hY:au W.heap.size W Y) (t:aA) (ht:t.size<=maxLen)=>A5 (h.bB hY) (hg.bB (hY.mono eD)) o.cM f hf x6 t ht
 have HX:ax ((W.alloc (aM #[aj (aO ⟨L.ob j,0,aN⟩)] 44)).alloc (aM #[ai tx] 9)=X):=hX;have HA:ax (bV aS W S s L/\Gl aS W/\au W W X/\s.bJ[j]?=aO o):=⟨h,hg,mg,ho⟩
 obtain⟨T,hT⟩:=ee (s.cQ f)
 have HD:ax (s.wo j o f tx=(s.eT o.cM f (js T tx (s.pz o f))).jw j { o with pos:=s.pz o f+tx.size }):=by rw[hT];exact rfl
 have HAt:ax (s.pz o f=if(bits BinOp.and IntKind.i64 o.use 4 != 0)=aI then(T.size:aF)else o.pos):=by rw[hT];exact rfl
 rw[<- hT]at lz x9 qF;have qH:ax ((if ¬ tx.data.toList=[]/\100<s.pz o f+tx.size then 4 else s.eh f (js (s.cQ f) tx (s.pz o f)))=(if ¬ tx.data.toList=[]/\100<s.pz o f+tx.size then 4 else s.eh f (js T tx (s.pz o f)))):=by rw[hT];exact rfl
 generalize (if ¬ tx.data.toList=[]/\100<s.pz o f+tx.size then 4 else s.eh f (js (s.cQ f) tx (s.pz o f)))=er at qH ⊢;have QA:=fun w a m f b c=>NL aP w a m f b c
 have c1':=c1;rw[<- hX]at c1';clear hX h hg hf mg hT hk ho;go_enter func95,ntmps95;go_wp2;all_goals
  rw[HX.out];go_region_held3 (fun w'=>w'.cell? W=aO (aj (aO ⟨L.ob j,0,aN⟩))/\w'.cell? ⟨L.ob j,0,aN⟩=aO (aj (aO ⟨L.fb o.cM,0,aN⟩))/\w'.cell? ⟨L.ob j,2,aN⟩=aO (aa ag o.pos)) (go_keep) (first|(go_at_call 129;refine(lz _ (aR _ _).drew).mono ?_;clear lz;rintro r w3 ⟨rfl,eG⟩;have eG:au X X w3:=((aR _ _).drew).trans eG;have z0:=(eG.cell (p:=W) l0).trans b0;have z1:=(eG.cell (p:=⟨L.ob j,0,aN⟩) lO).trans c0;have z2:=(eG.cell (p:=⟨L.ob j,2,aN⟩) lO).trans c2));have b1:=(eG.cell (p:=⟨↑W+1,0,aN⟩) l1).trans b1;have c1:=(eG.cell (p:=⟨L.ob j,1,aN⟩) lO).trans c1;have c0:=z1;have c2:=z2;have b0:=z0;have xU:au W W w3:=Below.bK HA.2.2.1 eG;have h3s:W.heap.size+2<=w3.heap.size:=by have:=eG.size;omega
  have lO3:L.ob j<w3.heap.size:=aZ lO eG.size;clear z0 z1 z2 eG lO l0 l1;obtain⟨at0,sN⟩:=ee (s.pz o f)
  have akq:0<=at0/\at0<=1000:=by rw[sN,HAt.out];split<;>omega
  rw[<- sN]at HD HAt qH;have HAT:ax (at0=s.pz o f):=sN;clear sN;generalize hta:(bits BinOp.and IntKind.i64 o.use 4 != 0)=ta at HAt;go_upto_if 34 with fail
  go_cut [9]from 35 to 36 (fun s9 w'=>s9=aa ag at0/\w3=w')
  case first =>cases ta<;>(go_wp2;go_meet;case rel=>exact⟨by rw[HAt.out];simp,rfl⟩)
  case' rest =>obtain⟨rfl,rfl⟩:=hcut
  clear hta HAt;have KV:au W W (w3.alloc (aM #[aa ag (at0+tx.size)] 3)):=Below.bK xU ((Grown.refl w3).alloc _).below;have d0:(w3.alloc (aM #[aa ag (at0+tx.size)] 3)).cell? w3=aO (aa ag (at0+tx.size)):=by simp
  have d1:=bj (aM #[aa ag (at0+tx.size)] 3) b0;have d2:=bj (aM #[aa ag (at0+tx.size)] 3) b1;have d3:=bj (aM #[aa ag (at0+tx.size)] 3) c0;by_cases he:tx.data.toList=[]
  ·have Xh:tx=⟨#[]⟩:=fV he
   have F7:tx.toList.isEmpty=aI:=by rw[Xh,bq];rfl
   have pF:ax (er=s.eh f (js T tx at0)):=by show er=_;rw[qH.out,aW (by simp[he])]
   have xH:js T tx at0=T:=by rw[js,aY he]
   have Kk:ax (T.size<=maxLen):=by show T.size<=maxLen;unfold maxLen;omega
   rw[xH]at pF;clear Xh he x9;have rD:=fun Y hY=>zR Y hY T Kk.out
   clear zR;generalize s.eh f T=ke at rD pF;by_cases hz:ke=0
   ·subst hz
    go_wp2_with (go_at_call 150;refine(rD _ KV).mono ?_;clear rD;rintro r w5 ⟨g,cap,rfl,fA,vq⟩;have H5:=(show ax _ from vq);clear vq);have F2:au w5 w5 (w5.alloc (aM #[.func (.func g) #[] cap] 1)):=((Grown.refl w5).alloc _).below;have lw:=KV.size;go_ret2;rw[pF.out,HD.out,xH];exact wZ HA.1 HA.2.1 (kO.keep _ _ _ _) HA.2.2.2 (pP _ _ _ _) KV fA F2 (by omega) (aV _) (by omega) (by simp) ((F2.cell (p:=w3) (aZ (bg d0) fA.size)).trans ((fA.cell (p:=w3) (bg d0)).trans d0)) ((F2.cell (p:=W) (aZ (bg d1) fA.size)).trans ((fA.cell (p:=W) (bg d1)).trans d1)) ((F2.cell (p:=⟨↑W+1,0,aN⟩) (aZ (bg d2) fA.size)).trans ((fA.cell (p:=⟨↑W+1,0,aN⟩) (bg d2)).trans d2)) (H5.out (by trivial))
   ·have hne:(ke != 0)=aI:=by simpa using hz
    go_wp2_with (go_at_call 150;refine(rD _ KV).mono ?_;clear rD;rintro r w5 ⟨g,cap,rfl,fA,vq⟩;have H5:=(show ax _ from vq);clear vq);go_ret2;rw[pF.out];exact cF.no _ hz (Below.bK (Below.bK KV fA) ((Grown.refl w5).alloc _).below)
  ·have F7:tx.toList.isEmpty=aH:=by rw[bq];simpa using he
   by_cases hm:100<at0+tx.size
   ·have pF:ax (er=4):=by show er=_;rw[qH.out,aY ⟨he,hm⟩]
    clear x9 zR;go_wp2;go_ret2;rw[pF.out];exact cF.no _ (by decide) KV
   ·have pF:ax (er=s.eh f (js T tx (at0))):=by show er=_;rw[qH.out,aW (by simp[hm])]
    have Lh:=fun Y=>x9 Y (at0) (by omega) (by omega)
    clear x9;have xH:js T tx (at0)=fI T (at0)++tx++T.extract (min (at0+tx.size) T.size).toNat T.size:=by rw[js,aW he]
    have Kk:ax ((fI T (at0)++tx++T.extract (min (at0+tx.size) T.size).toNat T.size).size<=maxLen):=by have h1:=mQ T (at0) (by omega);show(fI T (at0)++tx++T.extract (min (at0+tx.size) T.size).toNat T.size).size<=maxLen;rw[gK,gK,fc];unfold maxLen;omega
    rw[xH]at pF;have l0:W.heap.size<(w3.alloc (aM #[aa ag (at0+tx.size)] 3)).heap.size:=bg d1;have l1:W.heap.size+1<(w3.alloc (aM #[aa ag (at0+tx.size)] 3)).heap.size:=bg d2;have l2:w3.heap.size<(w3.alloc (aM #[aa ag (at0+tx.size)] 3)).heap.size:=bg d0;have l3:L.ob j<(w3.alloc (aM #[aa ag (at0+tx.size)] 3)).heap.size:=bg d3;obtain⟨Z1,Yp⟩:=o7 (fI T (at0))
    obtain⟨Z2,hZ2⟩:=o7 (T.extract (min (at0+tx.size) T.size).toNat T.size)
    have mL:Z1.size<=1000:=by have:=mQ T (at0) (by omega);rw[Yp]at this;omega
    have mh:Z2.size<=1000:=by rw[<- hZ2,fc];omega
    have hz3:(Z1++tx).size<=2000000:=by rw[gK];omega
    rw[Yp,hZ2]at xH Kk pF;rw[Yp]at Lh;have q1:(9223372036854775807<Z1.size+tx.size)=False:=tV (by omega);have q2:(9223372036854775807<(Z1++tx).size+Z2.size)=False:=tV (by omega);have q3:(9223372036854775807<Z1.size+tx.size+Z2.size)=False:=tV (by omega);have q4:(0:aF)<=min (at0+tx.size) T.size:=by omega
    have q5:min (at0+tx.size) (T.size:aF)<=T.size:=by omega
    go_wp2;go_region_held3 (fun w'=>w'.cell? ⟨↑W+1,0,aN⟩=aO (ai tx)/\w'.cell? w3=aO (aa ag (at0+tx.size))) (go_keep) (first|(go_at_call 149;refine(Lh _).mono ?_;clear Lh;rintro r w4 ⟨rfl,eO⟩;have eO:au (w3.alloc (aM #[aa ag (at0+tx.size)] 3)).heap.size (w3.alloc (aM #[aa ag (at0+tx.size)] 3)) w4:=((aR _ _).drew).trans eO;have z0:=(eO.cell (p:=⟨↑W+1,0,aN⟩) l1).trans d2;have z1:=(eO.cell (p:=w3) l2).trans d0));all_goals
     have z2:=(eO.cell (p:=W) l0).trans d1;have z3:=(eO.cell (p:=⟨L.ob j,0,aN⟩) l3).trans d3;have se:=Below.bK KV eO;clear d0 d1 d2 d3 b0 b1 c0 c1 c2 l0 l1 l2 l3;generalize Z1++tx++Z2=T2 at xH Kk pF ⊢;have rD:=fun Y hY=>zR Y hY T2 Kk.out
     clear zR;generalize s.eh f T2=ke at rD pF;by_cases hz:ke=0
     ·subst hz
      go_wp2_with (go_at_call 150;refine(rD _ se).mono ?_;clear rD;rintro r w5 ⟨g,cap,rfl,fA,vq⟩;have H5:=(show ax _ from vq);clear vq);have F2:au w5 w5 (w5.alloc (aM #[.func (.func g) #[] cap] 1)):=((Grown.refl w5).alloc _).below;have lw:=se.size;go_ret2;rw[pF.out,HD.out,xH];exact wZ HA.1 HA.2.1 (kO.keep _ _ _ _) HA.2.2.2 (pP _ _ _ _) se fA F2 (by omega) (aV _) (by omega) (by simp) ((F2.cell (p:=w3) (aZ (bg z1) fA.size)).trans ((fA.cell (p:=w3) (bg z1)).trans z1)) ((F2.cell (p:=W) (aZ (bg z2) fA.size)).trans ((fA.cell (p:=W) (bg z2)).trans z2)) ((F2.cell (p:=⟨↑W+1,0,aN⟩) (aZ (bg z0) fA.size)).trans ((fA.cell (p:=⟨↑W+1,0,aN⟩) (bg z0)).trans z0)) (H5.out (by trivial))
     ·have hne:(ke != 0)=aI:=by simpa using hz
      go_wp2_with (go_at_call 150;refine(rD _ se).mono ?_;clear rD;rintro r w5 ⟨g,cap,rfl,fA,vq⟩;have H5:=(show ax _ from vq);clear vq);go_ret2;rw[pF.out];exact cF.no _ hz (Below.bK (Below.bK se fA) ((Grown.refl w5).alloc _).below)
theorem GQ{s:Sy}(h:bV aS W S s L)(hg:Gl aS W)(j:aE)(o:qI)(f:Fl)(tx:aA)(Xi:tx.size<=140737488355328)(ho:s.bJ[j]?=aO o)(hf:s.bh[o.cM]?=aO f)(td:0<=o.pos)(D0:o.pos<=1000)(x6:f.bm.size<=80)(qF:(s.cQ f).size<=100):ay aP 95 #[aj (aO S),aj (aO ⟨L.ob j,0,aN⟩),ai tx] W (cF aS S s L (s.sA o f tx) (s.wo j o f tx) (gz tx.size ⟨#[]⟩) W):=by
 unfold Sy.sA;cases hu:(bits BinOp.and IntKind.i64 o.use 2 == 0)with
 | true =>rw[aY rfl];have HB:ax (au W W ((W.alloc (aM #[aj (aO ⟨L.ob j,0,aN⟩)] 44)).alloc (aM #[ai tx] 9))):=((aR _ _).alloc (aV _) _).alloc (by simp) _;obtain⟨⟨c0,c1,c2⟩,f2⟩:=(h.bB HB.out).oW ho;clear h hg ho hf;go_enter func95,ntmps95;go_wp2;go_ret2;exact cF.no _ (by decide) HB.out
 | false =>rw[aW (by simp)];exact T9 h hg j o f tx Xi ho hf td D0 x6 qF hu
theorem OH(use x:aF)(B:aE)(W:aw)(hc:W.cell? B=aO (aa ag use)):ay aP 115 #[aa ag x,aj (aO B)] W fun r w'=>r=aK (aq (has use x))/\w'=W:=by go_enter func115,ntmps115;go_wp2;go_ret;exact⟨rfl,rfl⟩
def PM.sS(use:aF):Bool:=if use<1\/63<use then aH else if has use 3 then(if has use 36 && !has use 2 then aH else !has use 16 || has use 8)else aH
theorem Ry(use:aF)(W:aw):ay aP 69 #[aa ag use] W fun r w'=>r=aK (aq (sS use))/\au W W w':=by
 have HB:ax (au W W (W.alloc (aM #[aa ag use] 3))):=((Grown.refl W).alloc _).below;have eg:∀ args w,(callFunc 115 args).run aP w=.ok (.enter 115 args) w:=enters_of func115 (by kernel_rfl) rfl;have hc:=fun x=>OH use x W (W.alloc (aM #[aa ag use] 3)) (by simp)
 unfold sS;by_cases h1:use<1
 ·rw[aY (.inl h1)]
  clear hc;go_enter func69,ntmps69;go_wp2;go_ret;exact⟨rfl,HB.out⟩
 by_cases h2:63<use
 ·rw[aY (.inr h2)]
  clear hc;go_enter func69,ntmps69;go_wp2;go_ret;exact⟨rfl,HB.out⟩
 rw[aW (by omega)];cases h3:has use 3 with
 | false =>go_enter func69,ntmps69;go_wp2_with ((go_at_fn 115;refine(hc _).mono ?_;rintro e w1 ⟨rfl,qM⟩;subst w1;(try rw[h3]);(try rw[WR]);(try rw[h2]);(try rw[OS]);(try rw[h8])));go_ret;exact⟨rfl,HB.out⟩
 | true=>
  cases WR:has use 36 with
  | false=>
   cases OS:has use 16 with
   | false =>go_enter func69,ntmps69;go_wp2_with ((go_at_fn 115;refine(hc _).mono ?_;rintro e w1 ⟨rfl,qM⟩;subst w1;(try rw[h3]);(try rw[WR]);(try rw[h2]);(try rw[OS]);(try rw[h8])));go_ret;exact⟨rfl,HB.out⟩
   | true=>
    cases h8:has use 8 with
    | false =>go_enter func69,ntmps69;go_wp2_with ((go_at_fn 115;refine(hc _).mono ?_;rintro e w1 ⟨rfl,qM⟩;subst w1;(try rw[h3]);(try rw[WR]);(try rw[h2]);(try rw[OS]);(try rw[h8])));go_ret;exact⟨rfl,HB.out⟩
    | true =>go_enter func69,ntmps69;go_wp2_with ((go_at_fn 115;refine(hc _).mono ?_;rintro e w1 ⟨rfl,qM⟩;subst w1;(try rw[h3]);(try rw[WR]);(try rw[h2]);(try rw[OS]);(try rw[h8])));go_ret;exact⟨rfl,HB.out⟩
  | true=>
   cases h2:has use 2 with
   | false =>go_enter func69,ntmps69;go_wp2_with ((go_at_fn 115;refine(hc _).mono ?_;rintro e w1 ⟨rfl,qM⟩;subst w1;(try rw[h3]);(try rw[WR]);(try rw[h2]);(try rw[OS]);(try rw[h8])));go_ret;exact⟨rfl,HB.out⟩
   | true=>
    cases OS:has use 16 with
    | false =>go_enter func69,ntmps69;go_wp2_with ((go_at_fn 115;refine(hc _).mono ?_;rintro e w1 ⟨rfl,qM⟩;subst w1;(try rw[h3]);(try rw[WR]);(try rw[h2]);(try rw[OS]);(try rw[h8])));go_ret;exact⟨rfl,HB.out⟩
    | true=>
     cases h8:has use 8 with
     | false =>go_enter func69,ntmps69;go_wp2_with ((go_at_fn 115;refine(hc _).mono ?_;rintro e w1 ⟨rfl,qM⟩;subst w1;(try rw[h3]);(try rw[WR]);(try rw[h2]);(try rw[OS]);(try rw[h8])));go_ret;exact⟨rfl,HB.out⟩
     | true =>go_enter func69,ntmps69;go_wp2_with ((go_at_fn 115;refine(hc _).mono ?_;rintro e w1 ⟨rfl,qM⟩;subst w1;(try rw[h3]);(try rw[WR]);(try rw[h2]);(try rw[OS]);(try rw[h8])));go_ret;exact⟨rfl,HB.out⟩
namespace PM
abbrev Sy.N7(s:Sy)(q:aB UInt8)(use:aF):Prop:=(bW s.bA q).isSome=aI/\((bits BinOp.and IntKind.i64 use 32 == 0)=aI\/((bW s.bA q).getD cR).text.data.toList=[])
noncomputable def Sy.kE(s:Sy)(q:aB UInt8)(use:aF):aF:=
 if(bW s.bA q).isSome=aH/\(bits BinOp.and IntKind.i64 use 8 == 0)=aI then 6
 else if(bW s.bA q).isSome=aI/\(bits BinOp.and IntKind.i64 use 16 != 0)=aI then 7
 else if(bW s.bA q).isSome=aI/\((bW s.bA q).getD cR).bE=2 then 9
 else if s.N7 q use then 0
 else dg (bH s.all).1 (dW s.bA ⟨fU q,1,⟨#[]⟩,aH⟩) (cZ s.up ⟨fU q,1,⟨#[]⟩,aH⟩).length
def Sy.jD(s:Sy)(q:aB UInt8)(use:aF):aB bP:=if s.N7 q use then s.up else cZ s.up ⟨fU q,1,⟨#[]⟩,aH⟩
end PM
def mb(S:aE)(s:Sy)(L:im)(err:aF)(up:aB bP)(W:aw)(r:Ending)(W':aw):Prop:=∃ (y:Lay) (lo:aB Lay) (pl:aC Addr) (cl yn ln:aE),r=aK (aL #[ar #[ah y.ad yn y.cap,ah pl ln cl],aa ag err])/\au W W W'/\ax (yn=y.es.length/\ln=lo.length/\(err=0->y.es=up/\lo.map (·.es)=s.cq/\St (Sp S s L) W' (fun X=>eZ X y lo pl cl)/\(bH (up::s.cq)).1=0))
theorem mb.no{s:Sy}(he:¬ err=0)(hB:au W W W'):mb S s L err up W (aK (aL #[ar #[ah aN 0 0,ah aN 0 0],aa ag err])) W':=⟨⟨aN,0,[]⟩,[],aN,0,0,0,rfl,hB,rfl,rfl,fun h=>aG h he⟩
theorem mb.er{s:Sy}{k:aF}(hB:au W W W')(e:err=k)(he:¬ k=0):mb S s L err up W (aK (aL #[ar #[ah aN 0 0,ah aN 0 0],aa ag k])) W':=e▸mb.no (e▸he) hB
theorem Mh{s:Sy}{yn ln:aE}(h:bV aS W S s L)(Xk:(bH s.all).1=0)(ku:yn=L.y.es.length)(ka:ln=L.lo.length)(hB:au W W Wf)(hu:up=s.up):mb S s L 0 up W (aK (aL #[ar #[ah L.y.ad yn L.y.cap,ah L.pl ln L.cl],aa ag 0])) Wf:=by subst hu;exact⟨L.y,L.lo,L.pl,L.cl,yn,ln,rfl,hB,ku,ka,fun _=>⟨h.up,h.low,fun Y hY=>((h.bB hB).data Y hY).un,Xk⟩⟩
theorem PU{X w7:aw}{s:Sy}{yn ln:aE}{up':aB bP}{Xo:aB (aB bP)}{ae:aF}{y:Lay}{lo:aB Lay}{pl:aC Addr}{cl:aE}(h:bV aS W S s L)(hX:au W W X)(H:yn=y.es.length/\ln=lo.length/\y.es=up'/\lo.map (·.es)=Xo/\eZ w7 y lo pl cl/\au X X w7/\qC X y lo pl)(ha:ae=0->up'=up/\Xo=s.cq/\(bH (up::s.cq)).1=0)(hu:True)(gm:W.heap.size<X):mb S s L ae up W (aK (aL #[ar #[ah y.ad yn y.cap,ah pl ln cl],aa ag ae])) ((w7.setCell W (ah y.ad yn y.cap)).setCell ⟨W,1,aN⟩ (ah pl ln cl)):=by
 obtain⟨r1,r2,r3,r4,r5,r6,r7⟩:=H;have hB:au W W ((w7.setCell W (ah y.ad yn y.cap)).setCell ⟨W,1,aN⟩ (ah pl ln cl)):=((Below.bK hX r6).setCell (p:=W) (aV _) _).setCell (p:=⟨W,1,aN⟩) (aV _) _;refine⟨y,lo,pl,cl,yn,ln,rfl,hB,r1,r2,fun h0=>?_⟩;obtain⟨e1,e2,e3⟩:=ha h0;have kQ:St (fun b=>Sp S s L b\/b=W.heap.size) w7 (fun X=>eZ X y lo pl cl):=eZ.st r5 r7 (fun b hb=>by
  rcases hb with hb|rfl
  ·have h1:=(h.od hb).2;have h2:=hX.size;omega
  ·exact gm)
 exact⟨r3.trans e1,r4.trans e2,St.more (St.on kQ ((cA.set (.inr rfl) _ 0 _).trans (cA.set (.inr rfl) _ 1 _))) (fun b _ hb=>.inl hb),e3⟩
theorem PT{s:Sy}(h:bV aS W S s L)(hg:Gl aS W)(Xk:(bH s.all).1=0)(d:aA)(Eg:d.size<=80)(use:aF):ay aP 72 #[aj (aO S),ai d,aa ag use] W (mb S s L (s.kE d use) (s.jD d use) W):=by
 have hsc:=fun Y (hY:au W.heap.size W Y)=>(h.bB hY).cells
 have mK:=fun Y (hY:au W.heap.size W Y)=>zH h hY d (by unfold maxLen;omega) _ rfl _ rfl
 have kG:=fun X (hX:au W.heap.size W X)=>(hg.bB (hX.mono (bc h.aS.1 (bM h.lt)))).2.elim fun m hm=>(uB L.y L.lo m L.pl L.cl ⟨d,1,⟨#[]⟩,aH⟩ (by show d.size<=_;unfold maxLen;omega) (by show d.size<_;omega) (by show(ByteArray.mk #[]).size<=_;decide) X (h.bB hX).data.now.un hm).mono fun r w' k=>k.Tm
 have hPW:=fun e=>(oB (up:=s.up) (cq:=s.cq) (e:=⟨d,1,⟨#[]⟩,aH⟩) e).1
 generalize he:s.kE d use=er;generalize hu:s.jD d use=up;unfold Sy.kE Sy.N7 at he;unfold Sy.jD Sy.N7 at hu;rw[show fU d.data.toList=d from fV (by simp[fU])]at he hu;generalize s.bA.length=sn at hsc mK;generalize ku:L.y.es.length=yn at hsc kG;generalize ka:L.lo.length=ln at hsc kG;simp only[h.up,h.low]at kG;have HA:ax (bV aS W S s L/\(bH s.all).1=0/\yn=L.y.es.length/\ln=L.lo.length):=⟨h,Xk,ku.symm,ka.symm⟩
 generalize (bW s.bA d).getD cR=x at mK he hu;generalize (bW s.bA d).isSome=th at mK he hu;generalize cZ s.up ⟨d,1,⟨#[]⟩,aH⟩=hv at kG he hu hPW;generalize hce:dg _ _ _=ae at kG hPW;rw[show dg (bH s.all).1 (dW s.bA ⟨d,1,⟨#[]⟩,aH⟩) hv.length=ae from hce]at he;obtain⟨xp,xk,xt,xo⟩:=x;generalize Xj:(bits BinOp.and IntKind.i64 use 8 == 0)=v8 at he;generalize alE:(bits BinOp.and IntKind.i64 use 16 != 0)=v16 at he;generalize alG:(bits BinOp.and IntKind.i64 use 32 == 0)=v32 at he hu;generalize h2:(xk == 2)=t2;generalize Xh:xt.toList.isEmpty=te;have HE:ax ((if th=aH/\v8=aI then 6 else if th=aI/\v16=aI then 7 else if th=aI/\t2=aI then 9 else if th=aI/\(v32=aI\/te=aI)then 0 else ae)=er/\(if th=aI/\(v32=aI\/te=aI)then s.up else hv)=up/\(ae=0->(bH (hv::s.cq)).1=0)):=by
  have e2:xk=2↔t2=aI:=by rw[<- h2];simp
  have e3:xt.data.toList=[]↔te=aI:=by rw[<- Xh,bq];simp
  simp only[e2,e3]at he hu;exact⟨he,hu,hPW⟩
 have hS:=h.lt;clear he hu hPW hce h hg Xk ku ka;go_enter func72,ntmps72;go_upto_region 0 with fail
 go_cut [6]from 6 to 7 (fun s6 w=>s6=aj (aO W)/\ax (Hb W w [(W.heap.size,.cells #[ah aN 0 0,ah aN 0 0] 26)]))
 case first=>
  go_wp2_with fail;go_meet
  case rel=>exact⟨rfl,(Hb.nil W).add _⟩
 obtain⟨rfl,HB⟩:=hcut;obtain⟨_,_,c2⟩:=hsc _ HB.low;go_upto_region 1 with fail
 go_cut [8,9]from 8 to 18 (fun s8 s9 w=>∃ E:aE,s8=aj (aO E)/\s9=aq th/\ax (Hb W w [(E,.cells #[ai xp,aa ag xk,ai xt,aq xo] 88),(W.heap.size,.cells #[ah aN 0 0,ah aN 0 0] 26)]))
 case first=>
  go_wp2_with (go_at_call 76;refine(mK _ HB.low).mono ?_;clear mK;rintro r w3 ⟨rfl,eG⟩;have H3:ax _:=HB.on eG;clear eG);go_meet
  case rel=>exact⟨_,rfl,rfl,H3.add _⟩
 clear HB c2 mK;obtain⟨E,rfl,rfl,HP⟩:=hcut;obtain⟨⟨_,e1,e2,_⟩,_⟩:=cK HP.hd;obtain⟨⟨r0,r1⟩,f0,f1⟩:=HP.tl.c2;obtain⟨c0,c1,_⟩:=hsc _ HP.low;have nS:¬ W=S:=by omega
 have nS':¬ S=W.heap.size:=by omega
 go_wp2_with (go_at_call 77;refine(kG _ HP.low).mono ?_;clear kG;rintro r w7 ⟨y,lo,pl,cl,D6,tK,rfl,H7⟩;replace HP:ax (Hb W wc _/\Hb W w7 _):=⟨HP.out,HP.on H7.2.2.2.2.2.1⟩;clear r0 r1 f0 f1;obtain⟨⟨r0,r1⟩,f0,f1⟩:=HP.2.tl.c2);all_goals have hq:=HE.out
 all_goals first
  | (have e : er = ae /\ up = hv /\ y.es.length = y.es.length:=?_
     obtain⟨⟨x0,x1⟩,_⟩:=(HP.2.tl.Mc (ah y.ad D6 y.cap) (ah pl tK cl)).c2;refine ba (v:=aL #[ar #[ah y.ad D6 y.cap,ah pl tK cl],aa ag ae]) (by simp[results,results72,go_sem,x0,x1]) rfl ?_;obtain⟨rfl,rfl,_⟩:=e
     ·exact PU HA.1 HP.1.low H7.out (fun e=>⟨aY e,aY e,hq.2.2 e⟩) trivial (HP.1.tl.lt Ho)
     ·clear hsc;grind)
  | (have e : er = 0 /\ up = s.up:=?_
     obtain⟨⟨x0,x1⟩,_⟩:=(HP.tl.Mc (ah L.y.ad yn L.y.cap) (ah L.pl ln L.cl)).c2;refine ba (v:=aL #[ar #[ah L.y.ad yn L.y.cap,ah L.pl ln L.cl],aa ag 0]) ?_ rfl ?_
     ·simp[results,results72,go_sem,x0,x1]
     ·obtain⟨rfl,rfl⟩:=e
      exact Mh HA.1 HA.2.1 HA.2.2.1 HA.2.2.2 (HP.tl.Mc _ _).low rfl
     ·clear hsc kG;grind)
  | (obtain⟨⟨x0,x1⟩,_⟩:=(HP.tl.Mc (ah aN 0 0) (ah aN 0 0)).c2
     refine ba (by simp[results,results72,go_sem,x0,x1]<;>rfl) rfl (mb.er (HP.tl.Mc _ _).low ?_ ?_)
     ·clear hsc kG;grind
     ·decide)
def UJ(aS S:aE)(s s':Sy)(i:aE)(L:im)(W:aw)(r:Ending)(W':aw):Prop:=∃ L':im,r=aK (aj (aO ⟨L'.fb i,0,aN⟩))/\bV aS W' S s' L'/\L'.ob=L.ob/\L'.ex=L.ex/\au W W W'/\(∀ x,x<s.bh.length->L'.fb x=L.fb x)/\(∀ x,s.bh.length<=x->x<s'.bh.length->W.heap.size<=L'.fb x)/\i<s'.bh.length/\s'.bJ=s.bJ
theorem AW{s:Sy}(h:bV aS W S s L)(q:aA):ay aP 75 #[aj (aO S),ai q] W (UJ aS S s (s.anP q).1 (s.anP q).2 L W):=by
 have hfl:=wH h;have HS:ax (bV aS W S s L):=h;have Pb:s.cr.length<=32:=tA s 32;obtain⟨n,hn⟩:=ee s.cr.length
 have HN:ax (n=s.cr.length):=hn;rw[<- hn]at Pb;clear h hn;go_enter func75,ntmps75;go_wp2_with (go_at_call 11;refine hfl.mono ?_;clear hfl;rintro e w1 ⟨⟨v,rfl,hP⟩,hB⟩;obtain⟨p,c,rfl,KS,_⟩:=hP.form;have EE:ax (uD w1 p (kU s L 32)/\au W W w1):=⟨KS,hB⟩;rw[show(kU s L 32).length=n from by rw[HN.out];simp[kU,Sy.cr]];clear hP KS hB);go_loopg [10] n (fun gg s10 wr=>∃ k:aE,k<=n/\n-k<=gg/\s10=aa ag k/\ax (wr=w1)/\ax (∀ y∈s.cr.take k,decide ((s.pathOf y).data.toList=q.data.toList)=aH))
 case atStart=>exact⟨0,bF _,by omega,rfl,rfl,fun y hy=>by simp at hy⟩
 case round=>
  obtain⟨k,hk,oP,rfl,HW,HA⟩:=hrel;rw[HW.out];by_cases gm:k<n
  ·have eN:(k:aF)<(n:aF):=by omega
   obtain⟨i,hi⟩:∃ i,s.cr[k]?=aO i:=⟨_,aU (by have:=HN.out;omega)⟩
   have YI:=HS.vY 32 i (bw hi);obtain⟨f,hf⟩:∃ f,s.bh[i]?=aO f:=⟨_,aU YI⟩
   have kV:(kU s L 32)[k]?=aO (L.fb i):=by show(s.cr.map L.fb)[k]?=_;rw[cD,hi];rfl
   rcases EE.1 with h0|⟨b,off,rfl,hb,hc⟩
   ·rw[h0]at kV;simp at kV
   have c0:w1.cell? ⟨b,off+k,aN⟩=aO (aj (aO ⟨L.fb i,0,aN⟩)):=hc k _ kV;have c1:w1.cell? ⟨L.fb i,0,aN⟩=aO (ai f.bm):=((HS.bB EE.2).tX hf).1.1;have hpo:s.pathOf i=f.bm:=by simp[Sy.pathOf,hf]
   have HI:ax (s.cr[k]?=aO i):=hi;clear hc kV hi;by_cases heq:f.bm.data.toList=q.data.toList
   ·have HF:ax (s.anP q=(s,i)):=by show _=_;rw[Sy.anP,Sy.um,F0 HI.out (by simp[hpo,heq]) HA.out]
    have q1:(f.bm.toList == q.toList)=aI:=by rw[bq,bq,heq];simp
    clear hpo heq hf;go_wp2;go_ret;rw[HF.out];exact⟨L,rfl,HS.bB EE.2,rfl,rfl,EE.2,fun _ _=>rfl,fun x h1 h2=>aG h2 (Nat.not_lt.2 h1),YI,rfl⟩
   ·have q1:(f.bm.toList == q.toList)=aH:=by rw[bq,bq];simpa using heq
    have HZ:ax (∀ y∈s.cr.take (k+1),decide ((s.pathOf y).data.toList=q.data.toList)=aH):=by
     show ∀ y∈s.cr.take (k+1),decide ((s.pathOf y).data.toList=q.data.toList)=aH;intro z hz;rw[jv]at hz;rcases bZ.1 hz with hz|hz
     ·exact HA.out z hz
     ·rw[HI.out]at hz
      simp at hz;rw[hz,hpo];simpa using heq
    clear hpo heq hf;go_wp2;go_roundg (n-(k+1))
    case measure=>omega
    case rel=>exact⟨k+1,by omega,by omega,by go_num,rfl,HZ.out⟩
  ·have eN:¬ (k:aF)<(n:aF):=by omega
   have HF:ax (s.anP q=(s.kg ⟨q,⟨#[]⟩,[]⟩,s.bh.length)):=by show _=_;rw[Sy.anP,Sy.um,Rw (k:=k) (by have:=HN.out;omega) HA.out]
   go_wp2;go_ret;rw[HF.out];obtain⟨L',h1,h2,h3,h4,_,_,_,_,h5⟩:=(HS.bB EE.2).VZ q ⟨#[]⟩;exact⟨L',by show _=Ending.returned (aj (aO ⟨L'.fb s.bh.length,0,aN⟩));rw[h4];rfl,h1,h2,h5,EE.2.alloc EE.2.size _,h3,fun x tJ yc=>by (have yc:x<s.bh.length+1:=by simpa[Sy.kg]using yc);rw[show x=s.bh.length by omega,h4];exact EE.2.size,by simp[Sy.kg],rfl⟩
section
variable {aS:aE}{W X:aw}{S:aE}{s:Sy}{L:im}
theorem bV.S3(h:bV aS W S s L)(i:aE)(hi:i<s.bh.length)(use:aF):∃ L':im,bV aS (W.alloc (aM #[aj (aO ⟨L.fb i,0,aN⟩),aa ag use,aa ag 0] 80)) S (s.kP ⟨i,use,0⟩) L'/\L'.fb=L.fb/\L'.ob s.bJ.length=W/\L'.ex=L.ex/\∀ j,j<s.bJ.length->L'.ob j=L.ob j:=by
 have hB:au W W (W.alloc (aM #[aj (aO ⟨L.fb i,0,aN⟩),aa ag use,aa ag 0] 80)):=((Grown.refl W).alloc _).below;have hk:=h.bB hB;have j5:(W.alloc (aM #[aj (aO ⟨L.fb i,0,aN⟩),aa ag use,aa ag 0] 80)).heap[W.heap.size]?=aO (aM #[aj (aO ⟨L.fb i,0,aN⟩),aa ag use,aa ag 0] 80):=heap_alloc_last W _;have Qw:∀ i,i<s.bJ.length->(if i=s.bJ.length then W.heap.size else L.ob i)=L.ob i:=fun i hi=>aW (by omega)
 refine⟨{ L with ob:=fun i=>if i=s.bJ.length then W.heap.size else L.ob i },⟨?_,fun j o ho=>?_,hk.tY,fun a b ha hb e=>?_,h.B6,?_,h.up,h.low,h.sI,h.sJ,fun k j hj=>?_,fun o ho=>?_,hk.wF,⟨h.aS.1,fun j hj=>?_,h.aS.2.2⟩⟩,rfl,aY rfl,rfl,Qw⟩
 ·obtain⟨arr,ha,hs,a0,a1,a2,af⟩:=hk.blk
  refine⟨arr,ha,hs,a0,a1,a2,fun k Lc=>?_⟩;rw[af k Lc];show _=aO (Value.pointer ((s.fds k).map fun j=>⟨if j=s.bJ.length then W.heap.size else L.ob j,0,aN⟩));cases hf:s.fds k with
  | none=>rfl
  | some j =>show aO (Value.pointer (aO ⟨L.ob j,0,aN⟩))=aO (Value.pointer (aO ⟨if j=s.bJ.length then W.heap.size else L.ob j,0,aN⟩));rw[Qw j (h.qo k j hf)]
 ·show(W.alloc _).heap[if j=s.bJ.length then W.heap.size else L.ob j]?=_
  rcases lh ho with⟨rfl,rfl⟩|⟨hj,ho⟩
  ·rw[aY rfl];exact j5
  ·rw[Qw j hj];exact hk.opn j o ho
 ·have e:(if a=s.bJ.length then W.heap.size else L.ob a)=(if b=s.bJ.length then W.heap.size else L.ob b):=e
  have ha:a<s.bJ.length+1:=by simpa[Sy.kP]using ha
  have hb:b<s.bJ.length+1:=by simpa[Sy.kP]using hb
  by_cases ea:a=s.bJ.length
  ·by_cases eb:b=s.bJ.length
   ·omega
   ·rw[aY ea,aW eb]at e;have:=h.Cs (j:=b) (by omega);omega
  ·by_cases eb:b=s.bJ.length
   ·rw[aW ea,aY eb]at e;have:=h.Cs (j:=a) (by omega);omega
   ·rw[aW ea,aW eb]at e;exact h.Df a b (by omega) (by omega) e
 ·intro Y hY
  have hZ:cA (Sp S s L) W Y:=⟨bc (by simp) hY.size,fun b hb hn=>(hY.block b (by simp;omega) (fun hs=>hn (by
   rcases hs with(rfl|hx)|⟨j,hj,rfl⟩|⟨i,hi,rfl⟩
   ·exact .inl (.inl rfl)
   ·exact .inl (.inr hx)
   ·have hj:j<s.bJ.length+1:=by simpa[Sy.kP]using hj
    have hb:(if j=s.bJ.length then W.heap.size else L.ob j)<W.heap.size:=hb;by_cases ej:j=s.bJ.length
    ·rw[aY ej]at hb;omega
    ·exact .inr (.inl ⟨j,by omega,aW ej⟩)
   ·exact .inr (.inr ⟨i,hi,rfl⟩)))).trans (hB.block b hb)⟩
  have hd:=h.data Y hZ;exact⟨hd.un,hd.bA,hd.b9⟩
 ·have:=h.qo k j hj
  simp[Sy.kP];omega
 ·rcases bZ.1 ho with ho|ho
  ·exact h.pV o ho
  ·simp at ho;rw[ho];exact hi
 ·show aS<=(if j=s.bJ.length then W.heap.size else L.ob j)
  have hj:j<s.bJ.length+1:=by simpa[Sy.kP]using hj
  by_cases ej:j=s.bJ.length
  ·rw[aY ej];exact bc h.aS.1 (bM h.lt)
  ·rw[aW ej];exact h.aS.2.1 j (by omega)
end
