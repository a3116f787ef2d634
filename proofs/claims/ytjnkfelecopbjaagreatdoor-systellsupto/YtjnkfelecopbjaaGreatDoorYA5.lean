import Derived.Test.YtjnkfelecopbjaaGreatDoorYA4
import Derived.Deep.CutRange
open Go.Proofs.Tryz
open Go.Value renaming int->aa,slice->ah,string->ai,pointer->aj,bool->aq,agg->ar,tuple->aL
open Go.IntKind renaming i64->ag
open Go.RowKit renaming Below->au
open Go renaming World->aw,Aside->ax,Calls->ay,Value->az,Addr->aJ
open _root_ renaming List->aB,Option->aC,Nat->aE,Int->aF,absurd->aG
open Bool renaming false->aH,true->aI
open Go.Ending renaming returned->aK
open Go.Obj renaming cells->aM
open Option renaming none->aN,some->aO
open Go.Proofs.Tryz renaming prog->aP
set_option linter.all false
set_option maxHeartbeats 4000000
set_option maxRecDepth 100000
namespace Go.Proofs.YtjnkfelecopbjaaGreatDoor
open Go.RowKit PM Go.Sort
variable{U aS c1 g g1 i:aE}{W W' W6 X w w7:aw}{a:aJ}{e:bP}{o o2:Obj}{own:aB bP}{v vb:az}
namespace PM
def fX(i:aE):aB (aB bP)->aF × aE
 | []=>(0,0)
 | x::r=>if(cV aI x).1=0 then fX (i+1) r else((cV aI x).1,i)
def bH(ls:aB (aB bP)):aF × aE:=if 5<ls.length then(5,0)else if(fX 0 ls).1=0 then((bG ls).1,0)else fX 0 ls
def cO(ls:aB (aB bP)):aB bP:=if(bH ls).1=0 then(bG ls).2 else[]
theorem qJ:∀ (ls:aB (aB bP)) (i:aE),(fX i ls).1=0↔∀ x∈ls,du aI x
 | [],i=>by simp[fX]
 | x::r,i=>by
  rw[fX];by_cases h:(cV aI x).1=0
  ·rw[aY h,qJ r (i+1)]
   simp[fO.1 h]
  ·rw[aW h]
   constructor
   ·intro g;exact aG g h
   ·intro g;exact aG (fO.2 (g x (by simp))) h
theorem gT{ls:aB (aB bP)}:(bH ls).1=0↔ls.length<=5/\(bG ls).1=0/\∀ x∈ls,du aI x:=by
 unfold bH;by_cases h5:5<ls.length
 ·rw[aY h5]
  exact⟨fun h=>aG h (by decide),fun h=>by omega⟩
 ·rw[aW h5]
  by_cases hb:(fX 0 ls).1=0
  ·rw[aY hb]
   exact⟨fun h=>⟨by omega,h,(qJ ls 0).1 hb⟩,fun h=>h.2.1⟩
  ·rw[aW hb]
   exact⟨fun h=>aG h hb,fun h=>aG ((qJ ls 0).2 h.2.2) hb⟩
theorem cY(ls:aB (aB bP)):du aH (cO ls):=by
 unfold cO;by_cases h:(bH ls).1=0
 ·rw[aY h];exact lQ (gT.1 h).2.1
 ·rw[aW h];exact Fo _
theorem sD:∀ {ls:aB (aB bP)},(bG ls).1=0->∀ x∈ls,du aI x
 | [],_,x,hx=>by simp at hx
 | y::r,h,x,hx=>by
  obtain⟨h1,h2,_⟩:=ox h;rcases cX.1 hx with rfl|hx
  ·exact(qO.1 h2).1
  ·exact sD h1 x hx
end PM
theorem gC.one(w:aw)(y:Lay)(H:aE)(hH:H=w):gC (w.alloc (aM #[ah y.ad y.es.length y.cap] 23)) H (ah (aO H) 1 1) [y]:=by subst hH;exact⟨rfl,.inr ⟨w.heap.size,1,#[ah y.ad y.es.length y.cap],rfl,aV _,(by show(w.heap.push _)[w.heap.size]?=_;simp),aV _,by decide,rfl,rfl⟩⟩
theorem gC.mono{base':aE}{ls:aB Lay}(h:gC w aS v ls)(hb:base'<=aS):gC w base' v ls:=by refine⟨h.1,h.2.imp id ?_⟩;rintro⟨g,cap,eI,e,hg,r⟩;exact⟨g,cap,eI,e,bc hb hg,r⟩
theorem gj.aaP{p:aC aJ}{t:aB Lay}(h:gj w p t)(hB:au w w W):t=[]\/∃ ad,p=aO ad/\∀ j y,t[j]?=aO y->W.cell? (ad.add j)=aO y.v:=by
 rcases h.bB hB with h|⟨b,off,rfl,hb,hc⟩
 ·exact .inl h
 ·exact .inr ⟨_,rfl,fun j y hy=>by rw[dG];exact hc j y hy⟩
theorem Lu(y:Lay)(ls:aB Lay)(pl:aC aJ)(cl:aE)(w:aw)(hT:gj w pl ls)(hn:ls.length<=80)(iR:pl=aN->cl=0):ay aP 38 #[ar #[ah y.ad y.es.length y.cap,ah pl ls.length cl]] w fun e w'=>(∃ v,e=aK v/\gC w' w v (y::ls))/\au w w w':=by
 have HT:ax (gj w pl ls):=hT;have BS:=gC.one (w.alloc (aM #[ah y.ad y.es.length y.cap,ah pl ls.length cl] 26)) y (w.heap.size+1) (by simp);have HB:ax (au w w ((w.alloc (aM #[ah y.ad y.es.length y.cap,ah pl ls.length cl] 26)).alloc (aM #[ah y.ad y.es.length y.cap] 23))):=((aR _ _).alloc (aV _) _).alloc (by simp) _;obtain⟨n,eK⟩:=ee ls.length
 have HN:ax (n=ls.length):=eK;rw[<- eK]at hn BS HB ⊢;obtain⟨k,hk⟩:=ee y.es.length
 rw[<- hk]at BS HB ⊢;have HO:ax _:=BS;clear hT eK hk BS;go_enter func38,ntmps38;go_wp2_with (at_builtin;refine AR _ rfl _ _ rfl (w.heap.size+1) _ [y] rfl HO.out (by simp) (by simp) pl n cl ls rfl HN.out (HT.aaP HB.out) iR hn ?_;intro v5 w5 BN fA;have HR:ax (gC w5 w v5 (y::ls)):=gC.mono BN (by omega);have tE:ax (au w w w5):=HB.trans (fA.mono (by omega));clear BN fA);go_ret;exact⟨⟨_,rfl,HR.out⟩,tE.out⟩
/-! two boxes at the door -/
theorem AL{W2:aw}(h:au (w.heap.size+2) ((w.alloc o).alloc o2) W)(g:au W W W2):au (w.heap.size+2) ((w.alloc o).alloc o2) W2:=h.trans (g.mono (by have:=h.size;simpa using this))
theorem lG(h:au (w.heap.size+2) ((w.alloc o).alloc o2) W):au w w W:=(((aR _ _).alloc (aV _) _).alloc (by simp) _).trans (h.mono (by omega))
theorem xx{a b:az}{t:TypeId}(h:au (w.heap.size+2) ((w.alloc o).alloc (aM #[a,b] t)) W):(W.cell? ⟨↑w+1,0,aN⟩=aO a/\W.cell? ⟨↑w+1,1,aN⟩=aO b)/\(W.frozen? ⟨↑w+1,0,aN⟩=aH/\W.frozen? ⟨↑w+1,1,aN⟩=aH):=by have:=nw (w:=w.alloc o) (B:=w.heap.size+2) (by simp) h;simpa using this
theorem FU{a b:az}{t:TypeId}(h:au (w.heap.size+2) ((w.alloc (aM #[a,b] t)).alloc o2) W):(W.cell? w=aO a/\W.cell? ⟨w,1,aN⟩=aO b)/\(W.frozen? w=aH/\W.frozen? ⟨w,1,aN⟩=aH):=by have h2:au (w.heap.size+1) (w.alloc (aM #[a,b] t)) W:=((aR _ _).alloc (by simp) _).trans (h.mono (by omega));exact nw (bC _) h2
theorem ny(h:au (w.heap.size+2) ((w.alloc o).alloc o2) W)(a b:az):au w w ((W.setCell ⟨↑w+1,0,aN⟩ a).setCell ⟨↑w+1,1,aN⟩ b):=
 ((lG h).setCell (p:=⟨↑w+1,0,aN⟩) (by simp) _).setCell (p:=⟨↑w+1,1,aN⟩) (by simp) _
def tP(er:aF)(at':aF)(l:aB bP)(w:aw)(e:Ending)(w':aw):Prop:=
 ∃ p c,e=aK (aL #[ah p l.length c,ar #[aa ag er,aa ag at']])/\bI w' p l/\l.length<=c/\(p=aN->c=0)/\au w w w'/\∀ b off s,p=aO ⟨b,off,s⟩->w.heap.size<=b
theorem Jd(a:aC aJ)(k c:aE)(n:aE)(pl:aC aJ)(cl:aE)(w:aw)(h:4<n):ay aP 19 #[ar #[ah a k c,ah pl n cl]] w (tP 5 0 [] w):=by
 have h4:(4:aF)<(n:aF):=by omega
 go_enter func19,ntmps19;go_wp2;refine ba (v:=aL #[ah aN 0 0,ar #[aa ag 5,aa ag 0]]) (by simp[results,results19,go_sem]) rfl ?_;exact⟨aN,0,rfl,bI.nil _ _,aV _,fun _=>rfl,((aR _ _).alloc (aV _) _).alloc (by simp) _,nofun⟩
theorem yN{all:aB (aB bP)}{k:aE}{x:aB bP}(hx:all[k]?=aO x):fX k (all.drop k)=if(cV aI x).1=0 then fX (k+1) (all.drop (k+1))else((cV aI x).1,k):=by obtain⟨h1,h2⟩:=aQ.1 hx;rw[cP h1,h2,fX]
theorem LD(y:Lay)(ls:aB Lay)(m:aF)(pl:aC aJ)(cl:aE)(w:aw)(hT:gj w pl ls)(zd:∀ x∈y::ls,jP w x)(iR:pl=aN->cl=0)(h4:ls.length<=4)(hm:w.cell? ⟨0,0,aN⟩=aO (aa ag m)):ay aP 19 #[ar #[ah y.ad y.es.length y.cap,ah pl ls.length cl]] w (tP (bH ((y::ls).map (·.es))).1 ((bH ((y::ls).map (·.es))).2:aE) (cO ((y::ls).map (·.es))) w):=by
 have Ek:=fun W (hB:au w.heap.size w W)=>Lu y ls pl cl W (hT.bB hB) (by omega) iR
 obtain⟨n,eK⟩:=ee ls.length
 have HN:ax (n=ls.length):=eK;have h4z:¬ (4:aF)<(n:aF):=by omega
 obtain⟨k0,A1⟩:=ee y.es.length
 rw[<- eK,<- A1]at Ek ⊢;have nN:ax (au (w.heap.size+2) ((w.alloc (aM #[ah y.ad k0 y.cap,ah pl n cl] 26)).alloc (aM #[aa ag 0,aa ag 0] 56)) ((w.alloc (aM #[ah y.ad k0 y.cap,ah pl n cl] 26)).alloc (aM #[aa ag 0,aa ag 0] 56))):=aR _ _;have UZ:ax (∀ x∈y::ls,jP w x):=zd;obtain⟨all,hall⟩:∃ all,all=y::ls:=⟨_,rfl⟩
 rw[<- hall]at UZ ⊢;have HAL:ax (all=y::ls):=hall;obtain⟨N,E4⟩:=o7 all.length
 have xS:N<=5:=by rw[<- E4,hall,cj];omega
 have Ca:ax (all.length=N):=E4;obtain⟨er,ni⟩:=ee ((bH (all.map (·.es))).1)
 obtain⟨ea,Yw⟩:=ee (((bH (all.map (·.es))).2:aE):aF)
 obtain⟨sl,xv⟩:=ee (cO (all.map (·.es)))
 rw[<- ni,<- Yw,<- xv];have qH:ax (er=(bH (all.map (·.es))).1/\ea=((bH (all.map (·.es))).2:aE)/\sl=cO (all.map (·.es))):=⟨ni,Yw,xv⟩
 have HWU:ax (bH (all.map (·.es))=if(fX 0 (all.map (·.es))).1=0 then((bG (all.map (·.es))).1,0)else fX 0 (all.map (·.es))):=by show _=_;unfold bH;rw[aW (by rw[bQ,E4];omega)]
 clear hT zd eK A1 hall E4 ni Yw xv;go_enter func19,ntmps19;go_wp2_with (go_at_call 38;refine(Ek _ (lG nN.out)).mono ?_;clear Ek;rintro e w3 ⟨⟨v3,rfl,yC⟩,pL⟩;have mm:ax (au (w.heap.size+2) _ w3):=AL nN.out pL;rw[<- HAL.out]at yC;obtain⟨p3,c3,rfl,pK⟩:=yC.form;rw[Ca.out];have Hm:ax (gj w3 p3 all):=pK;clear yC pL nN pK);go_loopg [19] N (fun gg s19 wr=>∃ k:aE,k<=N/\N-k<=gg/\s19=aa ag k/\ax (au w3 w3 wr)/\ax (fX k ((all.map (·.es)).drop k)=fX 0 (all.map (·.es))))
 case atStart=>exact⟨0,bF _,by omega,rfl,aR _ _,rfl⟩
 case round=>
  obtain⟨k,hk,oP,rfl,BW,HE⟩:=hrel;have kT:ax (au (w.heap.size+2) ((w.alloc (aM #[ah y.ad k0 y.cap,ah pl n cl] 26)).alloc (aM #[aa ag 0,aa ag 0] 56)) wr):=AL mm.out BW.out;by_cases gm:k<N
  ·have eN:(k:aF)<(N:aF):=by omega
   obtain⟨x,hx⟩:∃ x,all[k]?=aO x:=⟨_,aU (by have:=Ca.out;omega)⟩
   have HX:ax ((all.map (·.es))[k]?=aO x.es):=by show _=_;rw[cD,hx];rfl
   have lH:=(UZ.out x (bw hx)).bB (lG kT.out);have iM:=vQ x.es m x.ad x.cap wr lH.anO lH.fits lH.small lH.cap (held (lG kT.out) hm);rcases Hm.out with h0|⟨b,off,rfl,hb,hc⟩
   ·rw[h0]at hx;simp at hx
   have c0:wr.cell? ⟨b,off+k,aN⟩=aO (ah x.ad x.es.length x.cap):=(BW.cell (p:=⟨b,off+k,aN⟩) hb).trans (hc k x hx);have HS:=yN HX.out;have uY:ax (fX k ((all.map (·.es)).drop k)=if(cV aI x.es).1=0 then fX (k+1) ((all.map (·.es)).drop (k+1))else((cV aI x.es).1,k)):=HS;clear HS hc hx lH HX;generalize x.es.length=xl at c0 iM;generalize (cV aI x.es).1=f1 at iM uY;generalize ((cV aI x.es).2:aF)=f2 at iM;have Gc:=wG;by_cases hf:f1=0
   ·have XP:ax (fX (k+1) ((all.map (·.es)).drop (k+1))=fX 0 (all.map (·.es))):=by show _=_;rw[<- HE.out,uY.out,aY hf]
    subst hf;go_wp2_with (go_at_call 39;refine iM.mono ?_;clear iM;rintro rr w5 ⟨rfl,xS⟩;have tE:ax (au w3 w3 w5):=Below.bK BW.out xS;clear xS);go_roundg (N-(k+1))
    case measure=>omega
    case rel=>exact⟨k+1,by omega,by omega,by go_num,tE.out,XP.out⟩
   ·have HZ:ax (er=f1/\ea=(k:aF)/\sl=[]):=by
     have h1:fX 0 (all.map (·.es))=(f1,k):=by rw[<- HE.out,uY.out,aW hf]
     have h2:bH (all.map (·.es))=(f1,k):=by rw[HWU.out,h1,aW hf]
     obtain⟨h3,h4,h5⟩:=qH.out;rw[h2]at h3 h4;refine⟨h3,h4,?_⟩;rw[h5,cO,h2,aW hf]
    go_wp2_with (go_at_call 39;refine iM.mono ?_;clear iM;rintro rr w5 ⟨rfl,xS⟩;have tE:ax (au (w.heap.size+2) ((w.alloc (aM #[ah y.ad k0 y.cap,ah pl n cl] 26)).alloc (aM #[aa ag 0,aa ag 0] 56)) w5):=AL kT.out xS;obtain⟨⟨r0,r1⟩,⟨g0,g1⟩⟩:=xx tE.out;clear xS);refine ba (v:=aL #[ah aN 0 0,ar #[aa ag f1,aa ag k]]) (by simp[results,results19,go_sem,r0,r1]) rfl ?_;obtain⟨h1,h2,h3⟩:=HZ.out;rw[h1,h2,h3];exact⟨aN,0,rfl,bI.nil _ _,aV _,fun _=>rfl,ny tE.out _ _,nofun⟩
  ·obtain rfl:k=N:=by omega
   have eN:¬ (k:aF)<(k:aF):=by omega
   have rU:=Fg all m p3 c3 wr (Hm.bB BW.out) (fun x hx=>(UZ.out x hx).bB (lG kT.out)) (held (lG kT.out) hm);rw[Ca.out]at rU;have h0:fX 0 (all.map (·.es))=(0,0):=by rw[<- HE.out,cy (by rw[bQ,Ca.out];exact aV _)];rfl
   have Xd:jO (all.map (·.es))=bG (all.map (·.es)):=by rw[jO,aW (by rw[bQ,Ca.out];omega)]
   rw[Xd]at rU;have HZ:ax (er=(bG (all.map (·.es))).1/\ea=0/\sl=(bG (all.map (·.es))).2):=by
    have h2:bH (all.map (·.es))=((bG (all.map (·.es))).1,0):=by rw[HWU.out,h0,aY rfl]
    obtain⟨h3,h4,h5⟩:=qH.out;rw[h2]at h3 h4;refine⟨h3,h4,?_⟩;rw[h5,cO,h2];by_cases hz:(bG (all.map (·.es))).1=0
    ·rw[aY hz]
    ·rw[aW hz,A6 hz]
   obtain⟨z1,z2,z3⟩:=HZ.out;rw[<- z1,<- z3]at rU;subst z2;clear h0 Xd z1 z3;go_wp2_with (go_at_call 40;refine rU.mono ?_;clear rU;rintro rr w5 ⟨p5,c5,rfl,Ul,Ur,Xf,xS,D1⟩;have tE:ax (au (w.heap.size+2) ((w.alloc (aM #[ah y.ad k0 y.cap,ah pl n cl] 26)).alloc (aM #[aa ag 0,aa ag 0] 56)) w5):=AL kT.out xS;obtain⟨⟨r0,r1⟩,⟨g0,g1⟩⟩:=xx tE.out;have Zz:ax (bI w5 p5 sl):=Ul;have HW5:ax _:=D1;clear xS Ul D1);refine ba (v:=aL #[ah p5 sl.length c5,ar #[aa ag er,aa ag 0]]) (by simp[results,results19,go_sem,r0,r1]) rfl ?_;have sZ:∀ b off s,p5=aO ⟨b,off,s⟩->w.heap.size+1≠b:=fun b off s h=>by have h1:=HW5.out b off s h;have h2:=kT.size;simp at h2;omega
   exact⟨p5,c5,rfl,(Zz.oa _ _ sZ).oa _ _ sZ,Ur,Xf,ny tE.out _ _,fun b off s h=>by have:=HW5.out b off s h;have h2:=kT.size;simp at h2;omega⟩
theorem Dj(y:Lay)(ls:aB Lay)(m:aF)(pl:aC aJ)(cl:aE)(w:aw)(hT:gj w pl ls)(zd:∀ x∈y::ls,jP w x)(iR:pl=aN->cl=0)(hm:w.cell? ⟨0,0,aN⟩=aO (aa ag m)):ay aP 19 #[ar #[ah y.ad y.es.length y.cap,ah pl ls.length cl]] w (tP (bH ((y::ls).map (·.es))).1 ((bH ((y::ls).map (·.es))).2:aE) (cO ((y::ls).map (·.es))) w):=by
 by_cases h4:ls.length<=4
 ·exact LD y ls m pl cl w hT zd iR h4 hm
 ·have h1:bH ((y::ls).map (·.es))=(5,0):=by
   unfold bH;rw[aY (by rw[bQ,cj];omega)]
  have h2:cO ((y::ls).map (·.es))=[]:=by rw[cO,h1];rfl
  rw[h1,h2];exact Jd _ _ _ _ _ _ _ (by omega)
theorem yy(s d:ByteArray)(w:aw)(hs:s.size<=maxLen)(hd:d.size<=maxLen):ay aP 176 #[ai s,ai d] w fun e w'=>e=aK (aq (rG d s))/\w'=w:=by
 have nI:=fun W=>rq s d W hs hd
 have HH:ax (rG d s.data.toList=(decide (s.data.toList=d.data.toList) || anG s d)):=rfl;generalize anG s d.data.toList=u at nI HH;by_cases h:s.data.toList=d.data.toList
 ·obtain⟨e1,e2⟩:=kZ h
  have HR:ax (rG d s.data.toList=aI):=by show _=_;rw[HH.out,h];simp
  clear nI h;go_enter func176,ntmps176;go_wp2;go_ret;exact⟨df HR.symm,rfl⟩
 ·obtain⟨e1,e2⟩:=j8 h
  have HR:ax (rG d s.data.toList=u):=by show _=_;rw[HH.out];simp[h]
  clear h;go_enter func176,ntmps176;go_wp2_with (go_at_call 134;refine(nI _).mono ?_;rintro r w' ⟨rfl,rfl⟩);go_ret;exact⟨df HR.symm,rfl⟩
theorem Ox(e:bP)(q:ByteArray)(B:aE)(w:aw)(he:e.bm.size<=maxLen)(hq:q.size<=maxLen)(hB:B<w)(hc:w.cell? B=aO (ai q)):ay aP 175 #[ar #[ai e.bm, aa ag e.bE, ai e.text, aq e.opq],aj (aO B)] w fun r w'=>r=aK (aq (rG q e.p))/\Grown w w':=by
 have hne:B≠w.heap.size:=by omega
 go_enter func175,ntmps175;go_wp2_with (go_at_call 176;refine(yy _ _ _ he hq).mono ?_;rintro r w' ⟨rfl,rfl⟩);go_ret;exact⟨rfl,(Grown.refl w).alloc _⟩
theorem JH(t:aB bP)(e:bP)(p:aC aJ)(cap:aE)(w:aw)(hL:bI w p t)(hF:anM t)(hn:t.length<4611686018427387904)(hq:e.bm.size<=maxLen):ay aP 170 #[ah p t.length cap,ar #[ai e.bm, aa ag e.bE, ai e.text, aq e.opq],.func (.func 114) #[] #[]] w (Cv t e.p w):=by
 have HF:ax (anM t):=hF;have HL:ax (bI w p t):=hL;clear hL hF;obtain⟨n,eK⟩:=ee t.length
 have HN:ax (n=t.length):=eK;rw[<- eK]at hn ⊢;clear eK;have HG0:ax (Grown (w.alloc (aM #[ai e.bm, aa ag e.bE, ai e.text, aq e.opq] 88)) (w.alloc (aM #[ai e.bm, aa ag e.bE, ai e.text, aq e.opq] 88))):=Grown.refl _;go_enter func170,ntmps170;go_wp2;go_loopg [9,10] n (fun kx s9 s10 wr=>∃ lo hi:aE,s9=aa ag lo/\s10=aa ag hi/\lo<=hi/\hi<=n/\hi-lo<=kx/\ax (Grown (w.alloc (aM #[ai e.bm, aa ag e.bE, ai e.text, aq e.opq] 88)) wr) /\ ax ((∀ (h:0<lo) (h':lo-1<t.length),cmp (t[lo-1]'h').p e.p<0)/\(∀ (h:hi<t.length),0<=cmp (t[hi]'h).p e.p)))
 case atStart=>exact⟨0,n,rfl,rfl,bF _,aV _,by omega,HG0.out,(⟨fun h=>aG h (uT _),fun h=>by have:=HN.out;omega⟩:(∀ (h:0<0) (h':0-1<t.length),cmp (t[0-1]'h').p e.p<0)/\(∀ (h:n<t.length),0<=cmp (t[n]'h).p e.p))⟩
 case round=>
  obtain⟨lo,hi,rfl,rfl,hlh,mq,hg,S1,I⟩:=hrel;have hS:Grown w wr:=((Grown.refl w).alloc _).trans S1.out;obtain⟨⟨e0,e1,e2,e3⟩,_⟩:=iv (bC _) (S1.below.mono (by simp));have iM:w.heap.size<wr.heap.size:=bg e0;have J0:=fun n os=>anT (w:=wr) (a:=w) iM e0 n os
  have J1:=fun n os=>anT (w:=wr) (a:=⟨w,1,aN⟩) iM e1 n os
  have J2:=fun n os=>anT (w:=wr) (a:=⟨w,2,aN⟩) iM e2 n os
  have J3:=fun n os=>anT (w:=wr) (a:=⟨w,3,aN⟩) iM e3 n os
  have mixed:Tryz.prog.follows .mixedOrders=aI:=by kernel_rfl
  by_cases gm:lo<hi
  ·obtain⟨md,BR⟩:=o7 ((lo+hi) / 2:aE)
   have hmz:((lo:aF)+(hi:aF)) / 2=(md:aF):=by omega
   have Uz:lo<=md:=by omega
   have hmh:md<hi:=by omega
   have hmn:(md:aF)<(n:aF):=by omega
   have ald:md<n:=by omega
   clear BR;obtain⟨y,hy⟩:∃ y,t[md]?=aO y:=⟨_,aU (by have:=HN.out;omega)⟩
   have Y:ax (t[md]?=aO y):=hy;rcases HL.out with h0|⟨b,off,rfl,hb,hc⟩
   ·rw[h0]at hy;simp at hy
   obtain⟨c0,c1,c2,c3⟩:=bI.cells hc hb hS.below hy;have ot:b<wr.heap.size:=bg c0;have G0:=fun n os=>anT (w:=wr) (a:=⟨b,off+md*4,aN⟩) ot c0 n os
   have G1:=fun n os=>anT (w:=wr) (a:=⟨b,off+md*4+1,aN⟩) ot c1 n os
   have G2:=fun n os=>anT (w:=wr) (a:=⟨b,off+md*4+2,aN⟩) ot c2 n os
   have G3:=fun n os=>anT (w:=wr) (a:=⟨b,off+md*4+3,aN⟩) ot c3 n os
   have hyp:=(HF.at hy).1;clear hc hy c0 c1 c2 c3 e0 e1 e2 e3;have mz:∀ W,ay aP 114 #[ar #[ai y.bm, aa ag y.bE, ai y.text, aq y.opq],ar #[ai e.bm, aa ag e.bE, ai e.text, aq e.opq]] W fun r w'=>r=aK (aa ag (cmp y.p e.p))/\∃ q os',w'=grow (W.drewN q) os':=fun W=>vD y e W hyp hq
   have HI1:ax (cmp y.p e.p<0->∀ (h:0<md+1) (h':md+1-1<t.length),cmp (t[md+1-1]'h').p e.p<0):=fun h1 _ h'=>by have:=(aQ.1 Y.out).2;simp only[xi]at h' ⊢;rw[this];exact h1
   have US:ax (¬ cmp y.p e.p<0->∀ (h:md<t.length),0<=cmp (t[md]'h).p e.p):=fun h1 h=>by have:=(aQ.1 Y.out).2;rw[this];omega
   generalize cmp y.p e.p=c at mz HI1 US;by_cases Ny:c<0
   ·go_wp2
    go_quiet_grown (exact anU (mz _));go_wp2;go_roundg (hi-(md+1))
    case measure=>omega
    case rel =>exact⟨md+1,hi,by go_num,rfl,by omega,mq,aV _,S1.trans ⟨_,_,rfl⟩,(⟨HI1.out Ny,I.2⟩:_/\_)⟩
   ·go_wp2
    go_quiet_grown (exact anU (mz _));go_wp2;go_roundg (md-lo)
    case measure=>omega
    case rel =>exact⟨lo,md,rfl,rfl,by omega,by omega,aV _,S1.trans ⟨_,_,rfl⟩,(⟨I.1,US.out Ny⟩:_/\_)⟩
  ·obtain rfl:hi=lo:=by omega
   have PL:ax (fq t e.p hi):=⟨by have:=HN.out;omega,I.1,I.2⟩
   by_cases hlen:hi<n
   ·obtain⟨y,hy⟩:∃ y,t[hi]?=aO y:=⟨_,aU (by have:=HN.out;omega)⟩
    have Y:ax (t[hi]?=aO y):=hy;rcases HL.out with h0|⟨b,off,rfl,hb,hc⟩
    ·rw[h0]at hy;simp at hy
    obtain⟨c0,c1,c2,c3⟩:=bI.cells hc hb hS.below hy;have ot:b<wr.heap.size:=bg c0;have G0:=fun n os=>anT (w:=wr) (a:=⟨b,off+hi*4,aN⟩) ot c0 n os
    have G1:=fun n os=>anT (w:=wr) (a:=⟨b,off+hi*4+1,aN⟩) ot c1 n os
    have G2:=fun n os=>anT (w:=wr) (a:=⟨b,off+hi*4+2,aN⟩) ot c2 n os
    have G3:=fun n os=>anT (w:=wr) (a:=⟨b,off+hi*4+3,aN⟩) ot c3 n os
    have hyp:=(HF.at hy).1;clear hc hy c0 c1 c2 c3 e0 e1 e2 e3;have mz:∀ W,ay aP 114 #[ar #[ai y.bm, aa ag y.bE, ai y.text, aq y.opq],ar #[ai e.bm, aa ag e.bE, ai e.text, aq e.opq]] W fun r w'=>r=aK (aa ag (cmp y.p e.p))/\∃ q os',w'=grow (W.drewN q) os':=fun W=>vD y e W hyp hq
    have HA:ax (nJ t e.p hi=decide (cmp y.p e.p=0)):=by obtain⟨h1,h2⟩:=aQ.1 Y.out;show _=_;rw[nJ,EN h1,h2,dN];simp[mG]
    generalize cmp y.p e.p=c at mz HA;have El:(hi:aF)<(n:aF):=by omega
    by_cases Ny:c=0
    ·go_wp2
     go_quiet_grown (exact anU (mz _));go_wp2;go_ret2;exact⟨hi,by rw[HA.out];simp[Ny],PL.out,hS.trans ⟨_,_,rfl⟩⟩
    ·go_wp2
     go_quiet_grown (exact anU (mz _));go_wp2;go_ret2;exact⟨hi,by rw[HA.out];simp[Ny],PL.out,hS.trans ⟨_,_,rfl⟩⟩
   ·have El:¬ (hi:aF)<(n:aF):=by omega
    have HA:ax (nJ t e.p hi=aH):=by show _=_;rw[nJ,BK];have:=HN.out;omega
    go_wp2;go_quiet (fail);go_wp2;go_ret2;exact⟨hi,by rw[HA.out];first|rfl|(simp;omega)|(simp[El];done)|simp,PL.out,hS.drewN _⟩
structure fx (U g:aE) (W W':aw):Prop where
 os:W'.os=W.os
 tape:W'.tape=W.tape
 output:W'.output=W.output
 size:W.heap.size<=W'
 block:∀ k,k<W.heap.size->k≠U->k≠g->W'.heap[k]?=W.heap[k]?
theorem fx.nj(h:au W W W'):fx U g W W':=⟨h.os,h.tape,h.output,h.size,fun k hk _ _=>h.block k hk⟩
theorem fx.refl(U g:aE)(W:aw):fx U g W W:=fx.nj (aR _ _)
theorem fx.NC(h:W.grownBy W' (aO g)):fx U g W W':=⟨h.os,h.tape,h.output,h.size,fun k hk _ hn=>h.block k hk (by simpa using hn)⟩
theorem fx.set(o:aE)(v:az):fx U g W (W.setCell ⟨U,o,aN⟩ v):=⟨rfl,rfl,rfl,by simp[World.setCell],fun k hk h1 h2=>cI _ _ _ _ (by intro e;exact h1 (by rw[e]))⟩
theorem fx.trans{g':aE}{A B C:aw}(h:fx U g A B)(k:fx U g' B C)(hg:g'=g\/A<=g'):fx U g A C:=
 ⟨k.os.trans h.os,k.tape.trans h.tape,k.output.trans h.output,bc h.size k.size,fun i hi h1 h2=>(k.block i (aZ hi h.size) h1 (by rcases hg with e|e<;>omega)).trans (h.block i hi h1 h2)⟩
theorem fx.below(h:fx U g W W')(hU:aS<=U)(hg:aS<=g)(hb:aS<=W):au aS W W':=
 ⟨h.os,h.tape,h.output,h.size,fun k hk=>h.block k (by omega) (by omega) (by omega)⟩
theorem fx.cell(h:fx U g W W')(ha:a.block<W)(h1:a.block≠U)(h2:a.block≠g):W'.cell? a=W.cell? a:=ji (h.block _ ha h1 h2)
theorem fx.frozen(h:fx U g W W')(ha:a.block<W)(h1:a.block≠U)(h2:a.block≠g):W'.frozen? a=W.frozen? a:=dU (h.block _ ha h1 h2)
structure kj (W:aw) (aS U:aE) (own:aB bP) (g c:aE) (vb:az):Prop where
 c0:W.cell? U=aO (ah (aO g) own.length c)
 f0:W.frozen? U=aH
 c1:W.cell? ⟨U,1,aN⟩=aO vb
 own:Own W g c own
 ne:g≠U
 gb:aS<=g
 ub:aS<=U
section
variable {W W':aw}{aS U g c:aE}{own:aB bP}{vb:az}
theorem kj.ult(h:kj W aS U own g c vb):U<W.heap.size:=bg h.c0
theorem kj.bB(h:kj W aS U own g c vb)(hB:au W W W'):kj W' aS U own g c vb:=
 ⟨(hB.cell (p:=U) h.ult).trans h.c0,(hB.frozen (p:=U) h.ult).trans h.f0,(hB.cell (p:=⟨U,1,aN⟩) h.ult).trans h.c1,h.own.below hB h.own.lt,h.ne,h.gb,h.ub⟩
end
def iA(l:aB bP)(aS U g:aE)(vb:az)(W:aw)(r:Ending)(W':aw):Prop:=
 r=aK (aL #[])/\(∃ g' c',kj W' aS U l g' c' vb/\(g'=g\/W.heap.size<=g'))/\fx U g W W'
theorem pI{b:Bool}{t:aB bP}(h:PM.anJ b t):anM t:=fun e he=>by
 have hw:=h.each e he;have h1:=fG (dX hw);have h2:e.text.size<=100:=by
  unfold dv at hw;split at hw
  ·cases hw
  ·split at hw
   ·cases hw
   ·split at hw
    ·cases hw
    ·omega
 unfold maxLen;omega
theorem tZ(h:anM own)(hp:e.bm.size<=80)(ht:e.text.size<=maxLen):anM (iW own e):=fun x hx=>by
 rcases jo.1 hx with rfl|⟨hx,_⟩
 ·have h1:(nG own e).bm=e.bm:=by unfold nG;split<;>rfl
  rw[h1,RB];exact⟨by unfold maxLen;omega,ht⟩
 ·exact h x hx
theorem P5(hp:fq own e.p i)(hs:b7 own)(hne:e.p≠[])(sN:nJ own e.p i=aH):own.take i++e::own.drop i=iW own e:=by
 have hno:bW own e.p=aN:=eV hne fun x hx yG=>by have:=(hp.there hs).2 ⟨x,hx,yG⟩;rw[sN]at this;cases this
 unfold iW nG;rw[hno];exact hp.insert hs sN
theorem TR{y:bP}(hp:fq own e.p i)(hs:b7 own)(hne:e.p≠[])(hy:own[i]?=aO y)(hyp:y.p=e.p):own.set i { e with opq:=e.bE == 2 && (y.opq || y.bE == 4) }=iW own e:=by obtain⟨h1,h2⟩:=aQ.1 hy;have hg:bW own e.p=aO y:=mJ hs (bw hy) hyp hne;have sN:nJ own e.p i=aI:=tq.2 ⟨h1,by rw[h2];exact hyp⟩;unfold iW nG;rw[hg];exact fq.set (e:={ e with opq:=e.bE == 2 && (y.opq || y.bE == 4) }) hp hs sN
theorem Jn:∀ (t:aB bP) (q:aB UInt8),∃ i,fq t q i
 | [],q=>⟨0,aV _,fun h=>aG h (Nat.lt_irrefl _),fun h=>aG h (uT _)⟩
 | x::t,q=>by
  by_cases hx:cmp x.p q<0
  ·obtain⟨i,h⟩:=Jn t q
   refine⟨i+1,by have:=h.le;simp;omega,fun _ h'=>?_,fun h'=>?_⟩
   ·cases i with
    | zero=>exact hx
    | succ i=>exact h.lo (Nat.succ_pos _) (by simp at h';simpa using h')
   ·exact h.hi (by simpa using h')
  ·exact⟨0,bF _,fun h=>aG h (Nat.lt_irrefl _),fun _=>by show 0<=cmp x.p q;omega⟩
theorem PM.fq.uniq{t:aB bP}{q:aB UInt8}{j:aE}(h:fq t q i)(k:fq t q j)(hs:b7 t):i=j:=by
 have key:∀ {i j:aE},fq t q i->fq t q j->¬ i<j:=fun{i j} h k O5=>by
  have hi:i<t.length:=by have:=k.le;omega
  have h1:=h.hi hi;have h2:=k.below hs hi O5;omega
 have h1:=key h k;have h2:=key k h;omega
theorem JI(t:aB bP)(e:bP)(i:aE)(p:aC aJ)(cap:aE)(w:aw)(hL:bI w p t)(hF:anM t)(hn:t.length<4611686018427387904)(hq:e.bm.size<=maxLen)(hs:b7 t)(hi:fq t e.p i):ay aP 170 #[ah p t.length cap,ar #[ai e.bm, aa ag e.bE, ai e.text, aq e.opq],.func (.func 114) #[] #[]] w fun r w'=>r=aK (aL #[aa ag i,aq (nJ t e.p i)])/\∃ q os',w'=grow (w.drewN q) os':=by refine(JH t e p cap w hL hF hn hq).mono ?_;rintro r w' ⟨j,rfl,hj,hG⟩;rw[hj.uniq hi hs];exact⟨rfl,hG⟩
theorem pO(h:(W6.drew.alloc o).grownBy w7 (aO g))(hc:W6.cell? a=aO v)(hn:a.block≠g):w7.cell? a=aO v:=by have ha:=bg hc;rw[lZ h (by have h2:(W6.drew.alloc o).heap.size=W6.heap.size+1:=cE _ _;omega) hn];exact(((Grown.refl W6.drew).alloc o).cell (p:=a) ha).trans hc
theorem Dg(h:(W6.drew.alloc o).grownBy w7 (aO g)){b:Bool}(hc:W6.cell? a=aO v)(hf:W6.frozen? a=b)(hn:a.block≠g):w7.frozen? a=b:=by have ha:=bg hc;have h1:w7.frozen? a=(W6.drew.alloc o).frozen? a:=dU (h.block _ (by have h2:(W6.drew.alloc o).heap.size=W6.heap.size+1:=cE _ _;omega) (by simpa using hn));rw[h1];exact(((Grown.refl W6.drew).alloc o).below.frozen (p:=a) ha).trans hf
theorem VP{g7 c7:aE}{o tl:aB bP}{ob:Obj}(wL:kj W6 aS U o g1 c1 vb)(Un:fx U g W W6)(hG:g1=g\/W<g1)(J7:g7=g1\/(W6.drew.alloc ob).heap.size<=g7)(WX:Own w7 g7 c7 tl)(xr:(W6.drew.alloc ob).grownBy w7 (aO g1)):iA tl aS U g vb W (aK (aL #[])) (w7.setCell U (ah (aO g7) tl.length c7)):=by
 have gm:=wL.ult;have hs6:(W6.drew.alloc ob).heap.size=W6.heap.size+1:=cE _ _;have hsM:=Un.size;have x7:=wL.own.lt;have abO:g7≠U:=by
  rcases J7 with h|h
  ·rw[h];exact wL.ne
  ·omega
 have k0:=pO xr wL.c0 (lD wL.ne);have k1:=pO xr wL.c1 (lD wL.ne);have f0:=Dg xr wL.c0 wL.f0 (lD wL.ne);refine⟨rfl,⟨g7,c7,⟨dH _ _ _ (by rw[k0];rfl),by rw[jW];exact f0,?_,WX.bB ?_,abO,?_,wL.ub⟩,?_⟩,?_⟩
 ·rw[cN w7 ⟨U,0,aN⟩ ⟨U,1,aN⟩ _ (fun h=>by cases h)];exact k1
 ·exact cI _ _ _ _ (by simpa using abO)
 ·rcases J7 with h|h
  ·rw[h];exact wL.gb
  ·have:=wL.gb;omega
 ·rcases J7 with h|h
  ·rcases hG with e|e
   ·exact .inl (h.trans e)
   ·exact .inr (by omega)
  ·exact .inr (by omega)
 ·have Vq:fx U g1 W6 w7:=(fx.nj (g:=g1) ((((aR _ W6).drew).alloc (aV _) ob))).trans (fx.NC xr) (.inl rfl)
  have hM8:fx U g W w7:=Un.trans Vq (by rcases hG with e|e;exact .inl e;exact .inr (by omega));exact hM8.trans (fx.set (g:=g) 0 _) (.inl rfl)
structure Two (A B:aE) (W W':aw):Prop where
 os:W'.os=W.os
 tape:W'.tape=W.tape
 output:W'.output=W.output
 size:W'.heap.size=W
 block:∀ k,k≠A->k≠B->W'.heap[k]?=W.heap[k]?
theorem Two.set{A B:aE}(h:Two A B W X)(a:aJ)(v:az)(ha:a.block=A\/a.block=B):Two A B W (X.setCell a v):=
 ⟨h.os,h.tape,h.output,by rw[<- h.size];simp[World.setCell],fun k h1 h2=>(cI _ _ _ _ (by intro e;rcases ha with g|g<;>omega)).trans (h.block k h1 h2)⟩
theorem Two.refl(A B:aE)(W:aw):Two A B W W:=⟨rfl,rfl,rfl,rfl,fun _ _ _=>rfl⟩
theorem Wk{o l:aB bP}(ob:Obj)(wL:kj W6 aS U o g1 c1 vb)(Un:fx U g W W6)(hG:g1=g\/W<g1)(hEU:W≠U)(hO8:Own X g1 c1 l)(YN:l.length=o.length)(hX:Two W g1 W6 X):iA l aS U g vb W (aK (aL #[])) (X.alloc ob).drew:=by
 have Vt:=wL.ult;have YA:=wL.ne;have hB:au X X (X.alloc ob).drew:=((aR _ _).alloc (aV _) _).drew;have hXU:U<X.heap.size:=by rw[hX.size];exact Vt
 have hkU:=hX.block U (lD hEU) (lD YA);refine⟨rfl,⟨g1,c1,⟨?_,?_,?_,hO8.below hB hO8.lt,YA,wL.gb,wL.ub⟩,?_⟩,?_⟩
 ·rw[hB.cell (p:=U) hXU,ji (w:=W6) hkU,YN];exact wL.c0
 ·rw[hB.frozen (p:=U) hXU,dU (w:=W6) hkU];exact wL.f0
 ·rw[hB.cell (p:=⟨U,1,aN⟩) hXU,ji (w:=W6) hkU];exact wL.c1
 ·rcases hG with h|h
  ·exact .inl h
  ·exact .inr (bM h)
 ·have Vq:fx U g W X:=⟨hX.os.trans Un.os,hX.tape.trans Un.tape,hX.output.trans Un.output,by rw[hX.size];exact Un.size,fun k hk k1 k2=>(hX.block k (by omega) (by rcases hG with h|h<;>omega)).trans (Un.block k hk k1 k2)⟩
  exact Vq.trans (fx.nj (g:=g) hB) (.inl rfl)
theorem GO{o:aB bP}(ob:Obj)(e y:bP)(b:Bool)(hb:b=(e.bE == 2 && (y.opq || y.bE == 4)))(wL:kj W6 aS U o g1 c1 vb)(Un:fx U g W W6)(hG:g1=g\/W<g1)(hEU:W≠U)(Vm:W≠g1)(hp:fq o e.p i)(hs:b7 o)(hne:e.p≠[])(hy:o[i]?=aO y/\y.p=e.p):iA (iW o e) aS U g vb W (aK (aL #[])) ((((((W6.setCell ⟨W,3,aN⟩ (aq b)).setCell ⟨g1,i*4,aN⟩ (ai e.bm)).setCell ⟨g1,i*4+1,aN⟩ (aa ag e.bE)).setCell ⟨g1,i*4+2,aN⟩ (ai e.text)).setCell ⟨g1,i*4+3,aN⟩ (aq b)).alloc ob).drew:=by
 obtain⟨h1,_⟩:=aQ.1 hy.1;have kQ:=TR hp hs hne hy.1 hy.2;rw[<- hb]at kQ;have WX:Own (W6.setCell ⟨W,3,aN⟩ (aq b)) g1 c1 o:=wL.own.bB (cI _ _ _ _ (by simpa using lD Vm));have hO8:=WX.set h1 { e with opq:=b };rw[kQ]at hO8;have hT:=((((((Two.refl W g1 W6).set ⟨W,3,aN⟩ (aq b) (.inl rfl)).set ⟨g1,i*4,aN⟩ (ai e.bm) (.inr rfl)).set ⟨g1,i*4+1,aN⟩ (aa ag e.bE) (.inr rfl)).set ⟨g1,i*4+2,aN⟩ (ai e.text) (.inr rfl)).set ⟨g1,i*4+3,aN⟩ (aq b) (.inr rfl))
 exact Wk ob wL Un hG hEU hO8 (by rw[<- kQ,fW]) hT
theorem Ad:∀ (n:aE) {own:aB bP} (q:aB UInt8),q.length<=n->anM own->q.length<=80->anM (cZ own (pD (fU q) 2))
 | n,own,q,hn,hF,oq=>by
  have hp:(pD (fU q) 2).p=q:=mD q 2;have iL:(pD (fU q) 2).bm.size=q.length:=by show(fU q).size=_;simp[fU,ByteArray.size]
  have ht:(pD (fU q) 2).text.size<=maxLen:=by show(ByteArray.mk #[]).size<=maxLen;unfold maxLen;decide
  by_cases h:jG own (bU (pD (fU q) 2).p)=aI
  ·rw[pM h]
   exact tZ hF (by rw[iL];exact oq) ht
  ·rw[rC h]
   have hne:q≠[]:=by intro h0;apply h;rw[hp,h0];exact kL own
   have Ep:=eY hne;refine tZ ?_ (by rw[iL];exact oq) ht;rw[hp];cases n with
   | zero=>omega
   | succ n=>exact Ad n (bU q) (by omega) hF (by omega)
abbrev ZL(w:aw)(a:aC aJ)(k c:aE)(pl:aC aJ)(n cl:aE)(er ea:aF)(sl:aB bP):Prop:=∀ W,au w w W->ay aP 19 #[ar #[ah a k c,ah pl n cl]] W (tP er ea sl W)
theorem PY{w3:aw}{B:aE}{x y:az}(a b:az)(r0:w3.cell? B=aO x)(r1:w3.cell? ⟨B,1,aN⟩=aO y)(o:Obj):(((w3.setCell B a).setCell ⟨B,1,aN⟩ b).alloc o).cell? B=aO a/\(((w3.setCell B a).setCell ⟨B,1,aN⟩ b).alloc o).cell? ⟨B,1,aN⟩=aO b:=by
 have gm:=bg r0;have h1:((w3.setCell B a).setCell ⟨B,1,aN⟩ b).cell? B=aO a:=by rw[cN _ ⟨B,1,aN⟩ ⟨B,0,aN⟩ _ (fun h=>by cases h)];exact dH _ _ _ (by rw[r0];rfl)
 have h2:((w3.setCell B a).setCell ⟨B,1,aN⟩ b).cell? ⟨B,1,aN⟩=aO b:=by refine dH _ _ _ ?_;rw[cN _ ⟨B,0,aN⟩ ⟨B,1,aN⟩ _ (fun h=>by cases h),r1];rfl
 exact⟨bj o h1,bj o h2⟩
theorem GR(w:aw)(a:aC aJ)(k c:aE)(pl:aC aJ)(n cl:aE)(er ea:aF)(sl:aB bP)(BR:ZL w a k c pl n cl er ea sl):ay aP 8 #[ar #[ah a k c,ah pl n cl]] w (gp er sl w):=by have lV:ax (au w w (w.alloc (aM #[ah a k c,ah pl n cl] 26))):=(aR _ _).alloc (aV _) _;go_enter func8,ntmps8;go_wp2_with (go_at_call 19;refine(BR _ lV.out).mono ?_;clear BR;rintro e w3 ⟨p3,c3,rfl,pK,zP,DZ,pL,QB⟩;have mm:ax (au w w w3):=Below.bK lV.out pL;have Hm:ax (bI w3 p3 sl):=pK;have HW3:ax (∀ b off s,p3=aO ⟨b,off,s⟩->w.heap.size<=b):=(fun b off s h=>by have:=QB b off s h;simp at this;omega);clear pL pK QB;obtain⟨sn,ik⟩:=ee sl.length;have FM:ax (sn=sl.length):=ik;rw[<- ik]at zP ⊢;clear ik);go_quiet (fail);go_wp2;go_ret2;exact⟨p3,c3,by rw[<- FM.out];rfl,Hm.bB (cG ((Grown.refl w3).alloc _).below _),by rw[<- FM.out];exact zP,DZ,cG (mm.alloc mm.size _) _,HW3.out⟩
def yK(up B:aB bP)(w:aw)(r:Ending)(w':aw):Prop:=
 ∃ U g c pB cB aS,r=aK (aj (aO ⟨U,0,aN⟩))/\kj w' aS U up g c (ah pB B.length cB)/\w.heap.size<=aS/\aS<=w'.heap.size/\(∀ X,au aS w' X->bI X pB B)/\B.length<=cB/\au w w w'
theorem PF{c:aE}{up:aB bP}(h:Own w g c up)(a b:az)(t:TypeId):kj (w.alloc (aM #[ah (aO g) up.length c,b] t)) 0 w up g c b:=
 ⟨by simp,(nw (w:=w) (bC _) (aR _ _)).2.1,by simp,h.grown ((Grown.refl w).alloc _),by have:=h.lt;omega,bF _,bF _⟩
theorem wm(y:Lay)(ls:aB Lay)(m:aF)(pl:aC aJ)(cl:aE)(w:aw)(hy:jP w y)(ku:y.ad=aN->y.cap=0)(qg:y.es.length<=80)(hT:gj w pl ls)(zd:∀ x∈ls,jP w x)(h4:ls.length<=4)(hz:(bG (ls.map (·.es))).1=0)(hm:w.cell? ⟨0,0,aN⟩=aO (aa ag m)):ay aP 169 #[ar #[ah y.ad y.es.length y.cap,ah pl ls.length cl]] w (yK y.es (bG (ls.map (·.es))).2 w):=by
 have rU:=fun W (hB:au w.heap.size w W)=>Pt ls m pl cl W (hT.bB hB) (fun x hx=>(zd x hx).bB hB) (held hB hm)
 have Xd:jO (ls.map (·.es))=bG (ls.map (·.es)):=by rw[jO,aW (by rw[bQ];omega)]
 rw[Xd,hz]at rU;have HY:ax (∀ W,au w w W->bI W y.ad y.es):=fun W hB=>hy.anO.bB hB
 have lV:ax (au w w (w.alloc (aM #[ah y.ad y.es.length y.cap,ah pl ls.length cl] 26))):=(aR _ _).alloc (aV _) _;obtain⟨Bl,hBl⟩:=ee ((bG (ls.map (·.es))).2)
 rw[<- hBl]at rU ⊢;obtain⟨a,cc,es⟩:=y;simp only at ku qg HY lV ⊢;obtain⟨k,hk⟩:=ee es.length
 have HK:ax (k=es.length):=hk;rw[<- hk]at lV qg ⊢;generalize ls.length=n at rU lV h4 ⊢;obtain⟨nb,Qv⟩:=ee Bl.length
 have QM:ax (nb=Bl.length):=Qv;clear Xd hk Qv hy hT zd hm hBl hz;go_enter func169,ntmps169;go_wp2_with (first
  | (go_at_call 40;refine(rU _ lV.out).mono ?_;clear rU;rintro e w3 ⟨p3,c3,rfl,pK,zP,DZ,pL⟩;have mm:ax (au w w w3):=Below.bK lV.out pL;have Hm:ax (bI w3 p3 Bl):=pK;rw[<- QM.out]at zP ⊢;obtain⟨⟨u0,u1⟩,_⟩:=nw (w:=w) (bC _) (pL.mono (by simp));have gm:w.heap.size<w3.heap.size:=bg u0;have hne:w.heap.size≠w3.heap.size:=(by omega);clear pL pK)
  | (at_builtin;refine mC _ rfl _ _ rfl w3 rfl (om w3 _ rfl) a k cc es rfl HK.out ((HY.out w3 mm.out).grown ((Grown.refl _).alloc _)) ku qg (by simp) ?_;intro g c w4 hO hg eO;have HO:ax (Own w4 g c es):=hO;have HG:ax (w3<=g):=hg;have kT:ax (au w3 w3 w4):=((aR _ _).alloc (aV _) _).trans eO;have Sa:=hO.lt;clear hO hg eO))
 go_ret;have hU:=PF HO.out (aa ag 0) (ah p3 nb c3) 205;rw[<- HK.out]at hU;have hX:au w3 w3 (w4.alloc (aM #[ah (aO g) k c,ah p3 nb c3] 205)):=kT.alloc kT.size _;refine⟨w4.heap.size,g,c,p3,c3,w3.heap.size,rfl,⟨?_,hU.f0,?_,hU.own,hU.ne,HG.out,kT.size⟩,mm.size,hX.size,fun X hB=>Hm.bB (hX.trans hB),by rw[<- QM.out];exact zP,Below.bK mm.out hX⟩
 ·rw[hU.c0,<- HK.out]
 ·rw[<- QM.out];exact hU.c1
theorem FR{ops:Array Oper}{rest:aB Oper}{o:Oper}{a:Act}{Q:Exit->Act->aw->Prop}(X:aw)(ly:o.guard=aN)(s x:Operand)(ho:o.op=.call { callee:=.builtin .append,args:=#[s,x],argTypes:=#[24,24] })(aS:aE)(v:az)(l:aB Lay)(hs:a.eval s=v)(jF:gC X aS v l)(hlen:l.length<=80)(eD:aS<=X)(ad:aJ)(n cap:aE)(t:aB Lay)(hx:a.eval x=ah (aO ad) n cap)(hn:n=t.length)(hL:∀ j y,t[j]?=aO y->X.cell? (ad.add j)=aO y.v)(oq:n<=80)(h:∀ v' w',gC w' aS v' (l++t)->au aS X w'->X.heap.size<=w'.heap.size->(∀ b,b<X.heap.size->v.ownBlock≠aO b->w'.heap[b]?=X.heap[b]?)->wpList aP ops Q rest (a.put o.dst v') w'):wpList aP ops Q (o::rest) a X:=by
 obtain⟨i0,hi,ou,mL,mh⟩:=Xn;refine dP X ly s x 24 ho aS 23 i0 _ 1 24 underlying24 hi ou mL mh rfl (by decide) v l.length (l.map Lay.v) hs jF ad n cap (t.map Lay.v) hx (by rw[bQ,hn];omega) (fun j u hu=>?_) (fun u hu=>?_) (by unfold maxLen;omega) (by omega) eD ?_
 ·rw[cD]at hu
  obtain⟨y,hy,rfl⟩:=dM.1 hu;exact hL j y hy
 ·obtain⟨y,_,rfl⟩:=fT.1 hu
  rfl
 ·intro v' w' gG hg _
  refine h v' w' ?_ ((aR aS X).grown hg eD (fun j hj=>(gQ jF j hj).1)) hg.size (fun b hb hne=>hg.block b hb (fun e=>hne e.symm));unfold gC;rw[cJ,fk,<- hn];exact gG
def qw(aS:aE)(W:aw)(x:Lay):Prop:=∃ b,x.ad=aO ⟨b,0,aN⟩/\Own W b x.cap x.es/\aS<=b
theorem Mo{b c:aE}{l:aB Lay}{es:aB bP}(h:gC X aS v l)(hO:Own X b c es):v.ownBlock≠aO b:=by
 obtain⟨_,⟨h2,_⟩|⟨g,cap,eI,yE,hg,hh,_⟩⟩:=h
 ·rw[h2];simp[Value.ownBlock]
 ·rw[yE]
  intro e;simp[Value.ownBlock]at e;obtain⟨cur',hc,_⟩:=hO;rw[<- e,hh]at hc;have:=qB hc;injection this with _ ht _
  exact aG ht (by decide)
theorem qw.ok{x:Lay}(h:qw aS W x)(hF:anM x.es)(hl:x.es.length<=80):jP W x/\(x.ad=aN->x.cap=0):=by obtain⟨b,hb,hO,_⟩:=h;exact⟨⟨by rw[hb];exact hO.anO,hF,hO.len,by omega⟩,fun h=>by rw[hb]at h;cases h⟩
theorem gC.below{w':aw}{l:aB Lay}(h:gC w aS v l)(hb:au w w w'):gC w' aS v l:=by
 refine⟨h.1,h.2.imp id ?_⟩;rintro⟨g,cap,eI,e,hg,hh,r⟩;have gm:g<w.heap.size:=by
  rcases gR g w with h'|h'
  ·exact h'
  ·rw[il h']at hh;cases hh
 exact⟨g,cap,eI,e,hg,by rw[hb.block g gm];exact hh,r⟩
theorem gC.nil(w:aw)(aS:aE):gC w aS (ah aN 0 0) []:=kK _ _ _ _
def xM(els:aB (aB bP))(w:aw)(r:Ending)(w':aw):Prop:=
 (∃ v lo,r=aK v/\gC w' w v lo/\lo.map (·.es)=els/\∀ x∈lo,qw w w' x)/\au w w w'
theorem S8(W:aw)(y:Lay)(H:aE)(hH:H=W):∀ j z,[y][j]?=aO z->(W.alloc (aM #[ah y.ad y.es.length y.cap] 23)).cell? ((⟨H,0,aN⟩:aJ).add j)=aO z.v:=by
 subst hH;intro j z hz;cases j with
 | zero=>simp at hz;subst hz;rw[dG];simp[Lay.v]
 | succ j=>simp at hz
theorem CL(ls:aB Lay)(pl:aC aJ)(cl:aE)(w:aw)(hT:gj w pl ls)(zd:∀ x∈ls,bI w x.ad x.es/\(x.ad=aN->x.cap=0)/\x.es.length<=80)(h4:ls.length<=4):ay aP 20 #[ah pl ls.length cl] w (xM (ls.map (·.es)) w):=by
 have HT:ax (gj w pl ls):=hT;have UZ:ax (∀ x∈ls,bI w x.ad x.es/\(x.ad=aN->x.cap=0)/\x.es.length<=80):=zd;obtain⟨n,hn⟩:=ee ls.length
 have HN:ax (n=ls.length):=hn;rw[<- hn]at h4 ⊢;clear hT zd hn;go_enter func20,ntmps20;go_wp2;go_loopg [3,8] n (fun gg v i wr=>∃ (k:aE) (lo:aB Lay),k<=n/\n-k<=gg/\i=aa ag k/\lo.length=k/\ax (gC wr w v lo)/\ax (au w w wr)/\ax (lo.map (·.es)=(ls.take k).map (·.es)/\∀ x∈lo,qw w wr x))
 case atStart=>exact⟨0,[],bF _,by omega,rfl,rfl,gC.nil _ _,aR _ _,(⟨rfl,fun x hx=>by simp at hx⟩:_/\_)⟩
 case round=>
  obtain⟨k,lo,hk,oP,rfl,II,ST,BW,NM⟩:=hrel;by_cases gm:k<n
  ·have eN:(k:aF)<(n:aF):=by omega
   obtain⟨x,hx⟩:∃ x,ls[k]?=aO x:=⟨_,aU (by have:=HN.out;omega)⟩
   obtain⟨tJ,yc,D3⟩:=UZ.out x (bw hx);rcases HT.out with h0|⟨b,off,rfl,hb,hc⟩
   ·rw[h0]at hx;simp at hx
   have c0:wr.cell? ⟨b,off+k,aN⟩=aO (ah x.ad x.es.length x.cap):=(BW.cell (p:=⟨b,off+k,aN⟩) hb).trans (hc k x hx);have HX:ax (ls[k]?=aO x/\bI wr x.ad x.es):=⟨hx,tJ.bB BW.out⟩
   have Lj:=BW.size;clear hc hx tJ;obtain⟨xa,xc,xs⟩:=x;simp only at c0 yc D3;obtain⟨xn,UG⟩:=ee xs.length
   have HXN:ax (xn=xs.length):=UG;rw[<- UG]at c0 D3;clear UG;have YB:True:=trivial;go_wp2_with (first
    | (at_builtin;clear YB;refine mC (wr.alloc (aM #[] 88)) rfl _ _ rfl wr rfl (om wr _ rfl) xa xn xc xs rfl HXN.out (HX.2.grown ((Grown.refl _).alloc _)) yc D3 (by simp) ?_;intro g c w4 hO hg eO;have HO:ax (Own w4 g c xs):=hO;have kT:ax (au wr wr w4):=((aR _ _).alloc (aV _) _).trans eO;have Qz:=kT.size;have hgw:w<=g:=bc Lj hg;clear hO hg eO;have YC:True:=trivial)
    | (at_builtin;clear YC;refine FR (w4.alloc (aM #[ah (aO g) xn c] 23)) rfl _ _ rfl w _ lo rfl ((ST.below kT.out).alloc _) (by omega) (by simp;omega) ⟨w4,0,aN⟩ 1 1 [⟨aO ⟨g,0,aN⟩,c,xs⟩] rfl rfl (HXN.out▸S8 w4 ⟨aO ⟨g,0,aN⟩,c,xs⟩ _ rfl) (by omega) ?_;intro v5 w5 BN fA UE hK5;have XO:ax (gC w5 w v5 (lo++[⟨aO ⟨g,0,aN⟩,c,xs⟩])):=BN;have tE:ax (au w w w5):=((Below.bK BW.out kT.out).alloc (Below.bK BW.out kT.out).size _).trans fA;have UT:ax _:=hK5;clear BN fA hK5))
   go_roundg (n-(k+1))
   case measure=>omega
   case rel=>
    have hA:(lo++[(Lay.mk (aO ⟨g,0,aN⟩) c xs)]).map (·.es)=(ls.take (k+1)).map (·.es):=by obtain⟨h1,h2⟩:=aQ.1 HX.1;rw[dC h1,fk,fk,NM.1,h2];rfl
    have key:∀ (b c':aE) (es:aB bP),Own w4 b c' es->Own w5 b c' es:=fun b c' es hO=>by have CY:Own (w4.alloc (aM #[ah (aO g) xn c] 23)) b c' es:=hO.grown ((Grown.refl _).alloc _);exact CY.bB (UT.out b CY.lt (Mo ((ST.below kT.out).alloc _) CY))
    have hL:∀ x∈lo++[(Lay.mk (aO ⟨g,0,aN⟩) c xs)],qw w w5 x:=fun x hx=>by
     rcases bZ.1 hx with hx|hx
     ·obtain⟨b',ot,CY,pN⟩:=NM.2 x hx
      exact⟨b',ot,key _ _ _ (CY.below kT.out CY.lt),pN⟩
     ·rw[Hp]at hx
      subst hx;exact⟨g,rfl,key _ _ _ HO.out,hgw⟩
    exact⟨k+1,lo++[(Lay.mk (aO ⟨g,0,aN⟩) c xs)],by omega,by omega,by go_num,by simp[II],XO.out,tE.out,(⟨hA,hL⟩:_/\_)⟩
  ·obtain rfl:k=n:=by omega
   have eN:¬ (k:aF)<(k:aF):=by omega
   go_wp2;go_ret;refine⟨⟨_,lo,rfl,ST.out,?_,NM.2⟩,BW.out⟩;rw[NM.1,cz (by have:=HN.out;omega)]
theorem Nj(own:aB bP)(e:bP)(aS U g c:aE)(vb:az)(W:aw)(hU:kj W aS U own g c vb)(hs:b7 own)(hF:anM own)(Ak:e.bm.size<=80)(ht:e.text.size<=maxLen)(hne:e.p≠[])(hlen:own.length<=9000)(o:aB bP)(Gg:(jG own (bU e.p)=aI/\o=own)\/(jG own (bU e.p)=aH/\∀ X (d:ByteArray),d.data.toList=bU e.p->kj X aS U own g c vb->ay aP 124 #[aj (aO U),ar #[ai d,aa ag 2,ai ⟨#[]⟩,aq aH]] X (iA o aS U g vb X)))(tI:b7 o)(hFo:anM o)(II:o.length<=9000):ay aP 124 #[aj (aO U),ar #[ai e.bm, aa ag e.bE, ai e.text, aq e.opq]] W (iA (iW o e) aS U g vb W):=by
 have Vt:=hU.ult;have Gd:=hU.own.lt;have fg:au (W.heap.size+1) (W.alloc (aM #[ai e.bm, aa ag e.bE, ai e.text, aq e.opq] 88)) (W.alloc (aM #[ai e.bm, aa ag e.bE, ai e.text, aq e.opq] 88)):=aR _ _;have hcut:=fun X=>Cf e.bm X (by omega)
 have nY:∀ X,au W W X->∀ d:ByteArray,d.data.toList=bU e.p->ay aP 76 #[ah (aO g) own.length c,ai d] X fun r w'=>r=aK (aL #[ar #[ai ((bW own (bU e.p)).getD cR).bm,aa ag ((bW own (bU e.p)).getD cR).bE,ai ((bW own (bU e.p)).getD cR).text,aq ((bW own (bU e.p)).getD cR).opq],aq (bW own (bU e.p)).isSome])/\au X.heap.size X w':=fun X hB d hd=>by
  have BQ:=nD e.p;have iL:d.size<=80:=by rw[<- ix d,hd];have:e.p.length=e.bm.size:=ix e.bm;omega
  exact za own d (aO ⟨g,0,aN⟩) c X (hU.bB hB).own.anO hF (by omega) (by unfold maxLen;omega) hs _ _ (by rw[hd]) (by rw[hd])
 obtain⟨x,hx⟩:=o7 ((bW own (bU e.p)).getD cR)
 have hkd:(x.bE != 2) = !jG own (bU e.p):=by rw[<- hx];unfold jG;cases hg:bW own (bU e.p)<;>simp[cR]<;>rfl
 have HR:ax _:=Gg;clear Gg;rw[hx]at nY;obtain⟨xb,hxb⟩:=o7 ((bW own (bU e.p)).isSome)
 rw[hxb]at nY;obtain⟨xp,xk,xt,xo⟩:=x;simp only at hkd nY;have HU:ax (kj W aS U own g c vb):=hU;obtain⟨n,hn⟩:=o7 own.length
 have HN:ax (own.length=n):=hn;rw[hn]at nY;have HS:ax (b7 o/\anM o/\o.length<=9000/\e.p≠[]):=⟨tI,hFo,II,hne⟩
 clear hU hs hF hx hxb hn hne tI hFo II;have zN:U≠W.heap.size:=by omega
 go_enter func124,ntmps124;have HKD:ax ((xk != 2) = !jG own (bU e.p)):=hkd;clear hkd;go_upto_if 28 with(first
  | (go_at_call 136;refine(hcut _).mono ?_;clear hcut;rintro r w1 ⟨⟨d,nm,rfl,hdd,Co⟩,qM⟩;replace fg:=oC fg (below_draws qM);clear qM Co;have Ef:=(HU.bB (eX fg)).c0;rw[HN.out]at Ef)
  | (go_at_call 76;refine(nY _ (eX fg) d hdd).mono ?_;clear nY;rintro r w2 ⟨rfl,rB⟩;replace fg:=oC fg rB;clear rB Ef;obtain⟨⟨e0,e1,e2,e3⟩,_⟩:=iv (bC _) fg))
 have fC:=NR (o2:=.cells #[ai xp,aa ag xk,ai xt,aq xo] 88) fg;obtain⟨Y,hY⟩:=o7 (w2.alloc (aM #[ai xp,aa ag xk,ai xt,aq xo] 88))
 rw[hY]at fC ⊢;obtain⟨⟨z0,z1,z2,z3⟩,⟨fz0,fz1,ZQ,ZR⟩⟩:=iv (bC _) fC;have nN:ax (au W W Y):=eX fC;have hsY:W.heap.size<Y.heap.size:=bg z0;clear hY fC fg fz0 fz1 ZQ e0 e1 e2 e3;generalize htk:(xk != 2)=tk at HKD ⊢;go_cut []from 29 to 32 (fun w'=>∃ g3 c3,ax (kj w' aS U o g3 c3 vb/\fx U g W w'/\(g3=g\/W.heap.size<g3))/\ax (w'.cell? W=aO (ai e.bm)/\w'.cell? ⟨W,1,aN⟩=aO (aa ag e.bE)/\w'.cell? ⟨W,2,aN⟩=aO (ai e.text)/\w'.cell? ⟨W,3,aN⟩=aO (aq e.opq)/\w'.frozen? ⟨W,3,aN⟩=aH))
 case first=>
  rcases HR.out with⟨hd,rfl⟩|⟨hd,Gg⟩<;>have:=HKD.out<;>rw[hd]at this<;>subst this
  ·go_wp2
   go_meet
   case rel=>exact⟨g,c,(⟨HU.bB nN.out,fx.nj nN.out,.inl rfl⟩:_/\_/\_),(⟨z0,z1,z2,z3,ZR⟩:_/\_/\_/\_/\_)⟩
  ·have HZ:ax (_/\_/\_/\_/\_):=⟨z0,z1,z2,z3,ZR⟩
   clear z0 z1 z2 z3 ZR;go_wp2_with (go_at_call 124;refine(Gg _ d hdd (HU.bB nN.out)).mono ?_;clear Gg;rintro r w3 ⟨rfl,⟨g3,c3,hU3,hg3⟩,ZW⟩;have H3:ax (_/\_/\_):=⟨hU3,hg3,ZW⟩;clear hU3 hg3 ZW);go_meet
   case rel=>
    obtain⟨hU3,hg3,ZW⟩:=H3.out;have hk:∀ j,w3.cell? ⟨W,j,aN⟩=Y.cell? ⟨W,j,aN⟩:=fun j=>ZW.cell (a:=⟨W,j,aN⟩) (by simp only;omega) (by simp only;omega) (by simp only;omega)
    obtain⟨z0,z1,z2,z3,ZR⟩:=HZ.out;refine⟨g3,c3,(⟨hU3,(fx.nj nN.out).trans ZW (.inl rfl),hg3.imp id fun h=>by omega⟩:_/\_/\_),(⟨(hk 0).trans z0,(hk 1).trans z1,(hk 2).trans z2,(hk 3).trans z3,(ZW.frozen (a:=⟨W,3,aN⟩) (by simp only;omega) (by simp only;omega) (by simp only;omega)).trans ZR⟩:_/\_/\_/\_/\_)⟩
 case rest=>
 obtain⟨g3,c3,H5,H6⟩:=hcut;obtain⟨Y,rfl⟩:=ee wc
 clear z0 z1 z2 z3 ZR hsY nN htk HKD HR;obtain⟨y0,y1,y2,y3,fy3⟩:=H6.out;have XQ:ax (kj Y aS U o g3 c3 vb):=H5.1;have HM5:ax (fx U g W Y):=H5.2.1;have HG5:ax (g3=g\/W<g3):=H5.2.2;have Vm:W≠g3:=by rcases HG5.out with h|h<;>omega
 clear H5 H6;go_wp2;obtain⟨i,Gf⟩:=Jn o e.p;have HP:ax (fq o e.p i):=Gf;have hUY:=XQ.ult;obtain⟨n1,Ge⟩:=ee o.length
 have ZA:ax (n1=o.length):=Ge;have Ur:Y.cell? U=aO (ah (aO g3) n1 c3):=by rw[Ge];exact XQ.c0
 have K0:=fun n os=>anT (w:=Y) (a:=U) hUY Ur n os
 have OT:W.heap.size<Y.heap.size:=bg y0;have J0:=fun n os=>anT (w:=Y) (a:=W) OT y0 n os
 have J1:=fun n os=>anT (w:=Y) (a:=⟨W,1,aN⟩) OT y1 n os
 have J2:=fun n os=>anT (w:=Y) (a:=⟨W,2,aN⟩) OT y2 n os
 have J3:=fun n os=>anT (w:=Y) (a:=⟨W,3,aN⟩) OT y3 n os
 have Gh:∀ n os,ay aP 170 #[ah (aO g3) n1 c3,ar #[ai e.bm, aa ag e.bE, ai e.text, aq e.opq],.func (.func 114) #[] #[]] (grow (Y.drewN n) os) fun r w'=>r=aK (aL #[aa ag i,aq (nJ o e.p i)])/\∃ q os',w'=grow ((grow (Y.drewN n) os).drewN q) os':=fun n os=>by rw[Ge];exact JI o e i _ c3 _ (XQ.own.grown ⟨n,os,rfl⟩).anO HS.2.1 (by have:=HS.2.2.1;omega) (by unfold maxLen;omega) HS.1 HP.out
 have mixed:Tryz.prog.follows .mixedOrders=aI:=by kernel_rfl
 have mq:i<=n1:=by rw[Ge];exact Gf.le
 have Pc:n1<=9000:=by rw[Ge];exact HS.2.2.1
 clear Ge Gf;cases sN:nJ o e.p i with
 | false=>
  rw[sN]at Gh;have HAT:ax (nJ o e.p i=aH):=sN;clear sN;go_quiet_grown (exact anU (Gh _ _));obtain⟨W6,Cm⟩:=ee (grow (Y.drewN nq) osq)
  have Cj:Grown Y W6:=⟨nq,osq,Cm⟩
  show Exit.then _ _ Exit.normal _ (grow (Y.drewN nq) osq);rw[<- Cm];have q0:=(Cj.cell (p:=U) hUY).trans Ur;have j0:=(Cj.cell (p:=W) OT).trans y0;have j1:=(Cj.cell (p:=⟨W,1,aN⟩) OT).trans y1;have j2:=(Cj.cell (p:=⟨W,2,aN⟩) OT).trans y2;have j3:=(Cj.cell (p:=⟨W,3,aN⟩) OT).trans y3;have DS:ax (kj W6 aS U o g3 c3 vb):=XQ.bB Cj.below;have HM6:ax (fx U g W W6):=HM5.trans (fx.nj (g:=g) Cj.below) (.inl rfl);have hg6:=DS.own.lt;have YA:=DS.ne;have Lb:∀ Z:aw,au W6 W6 Z->ay aP 168 #[ah (aO g3) n1 c3,aa ag i,ah (aO ⟨Z.heap.size,0,aN⟩) 1 1] (Z.alloc (aM #[ai e.bm, aa ag e.bE, ai e.text, aq e.opq] 88)) (wB (iW o e) g3 (Z.alloc (aM #[ai e.bm, aa ag e.bE, ai e.text, aq e.opq] 88))):=fun Z hZ=>by have:=Dh o e i g3 c3 (Z.alloc (aM #[ai e.bm, aa ag e.bE, ai e.text, aq e.opq] 88)) ((DS.own.below hZ hg6).grown ((Grown.refl _).alloc _)) Z.heap.size (by show(Z.heap.push _)[Z.heap.size]?=_;simp;rfl) (by have:=hZ.size;omega) HP.le (by have:=HS.2.2.1;omega);rw[P5 HP.out HS.1 HS.2.2.2 HAT.out,<- ZA.out]at this;exact this
  clear Cm Gh K0 J0 J1 J2 J3 y0 y1 y2 y3 Ur XQ HM5 Cj HP;obtain⟨tl,Pg⟩:=ee (iW o e)
  rw[<- Pg]at Lb;have HTL:ax (tl=iW o e):=Pg;clear Pg;go_wp2;have aki:U<W6.heap.size:=DS.ult;have akj:U≠W6.heap.size:=by omega
  have ajY:W.heap.size<W6.heap.size:=bg j0;have ajZ:W.heap.size≠W6.heap.size:=by omega
  go_region_with (first|(go_at_call 168;refine uC (Lb W6.drew (aR _ _).drew) ?_;clear Lb;rintro rr w7 ⟨g7,c7,rfl,WX,J7,xr⟩;have hx7:=xr.size;have k0:=pO xr q0 (lD YA);have k1:=pO xr j0 Vm;have k2:=pO xr j1 Vm;have k3:=pO xr j2 Vm;have k4:=pO xr j3 Vm;have kf:=Dg xr q0 DS.f0 (lD YA);have XL:ax _:=WX;have HG7:ax _:=J7;have JX:ax _:=xr;clear WX J7 xr));all_goals go_wp2
  all_goals refine ba (eC rfl _ _ _) rfl ?_
  all_goals have Pg:=HTL.out
  all_goals subst Pg
  all_goals exact VP DS.out HM6.out HG5.out HG7.out XL.out JX.out
 | true=>
  rw[sN]at Gh;obtain⟨Uw,YH⟩:=tq.1 sN;obtain⟨y,hy⟩:∃ y,o[i]?=aO y:=⟨_,aU Uw⟩
  have HY:ax (o[i]?=aO y/\y.p=e.p):=⟨hy,by rw[<- (aQ.1 hy).2];exact YH⟩
  have hi3:i<n1:=by rw[ZA.out];exact Uw
  clear sN Uw YH hy;go_quiet_grown (exact anU (Gh _ _));obtain⟨W6,Cm⟩:=ee (grow (Y.drewN nq) osq)
  have Cj:Grown Y W6:=⟨nq,osq,Cm⟩
  show Exit.then _ _ Exit.normal _ (grow (Y.drewN nq) osq);rw[<- Cm];have q0:=(Cj.cell (p:=U) hUY).trans Ur;have j0:=(Cj.cell (p:=W) OT).trans y0;have j1:=(Cj.cell (p:=⟨W,1,aN⟩) OT).trans y1;have j2:=(Cj.cell (p:=⟨W,2,aN⟩) OT).trans y2;have j3:=(Cj.cell (p:=⟨W,3,aN⟩) OT).trans y3;have fj3:=(Cj.below.frozen (p:=⟨W,3,aN⟩) OT).trans fy3;have DS:ax (kj W6 aS U o g3 c3 vb):=XQ.bB Cj.below;have HM6:ax (fx U g W W6):=HM5.trans (fx.nj (g:=g) Cj.below) (.inl rfl);have hg6:=DS.own.lt;have hE6:W.heap.size<W6.heap.size:=bg j0;have ajX:W.heap.size≠W6.heap.size:=by omega
  have wL:U<W6.heap.size:=DS.ult;have akg:U≠W6.heap.size:=by omega
  have akK:g3≠W6.heap.size:=by omega
  have YA:=DS.ne;obtain⟨⟨a0,a1,a2,a3⟩,⟨f0,f1,f2,f3⟩⟩:=DS.own.cells HY.1;clear Cm Gh K0 J0 J1 J2 J3 y0 y1 y2 y3 Ur XQ HM5 Cj fy3;obtain⟨yp,yk,yt,yo⟩:=y;simp only at a0 a1 a2 a3;obtain⟨ep,ek,et,eo⟩:=e;simp only at j0 j1 j2 j3 Ak ht ⊢;by_cases j4:ek=2
  ·subst j4
   cases yo
   ·go_wp2
    go_region;refine ba (eC rfl _ _ _) rfl ?_;exact GO _ ⟨ep,2,et,eo⟩ ⟨yp,yk,yt,aH⟩ (yk == 4) (by simp) DS.out HM6.out HG5.out (by omega) Vm HP.out HS.1 HS.2.2.2 HY.out
   ·go_wp2
    go_region;refine ba (eC rfl _ _ _) rfl ?_;exact GO _ ⟨ep,2,et,eo⟩ ⟨yp,yk,yt,aI⟩ aI rfl DS.out HM6.out HG5.out (by omega) Vm HP.out HS.1 HS.2.2.2 HY.out
  ·go_wp2
   go_region;refine ba (eC rfl _ _ _) rfl ?_;exact GO _ ⟨ep,ek,et,eo⟩ ⟨yp,yk,yt,yo⟩ aH (by simp[j4]) DS.out HM6.out HG5.out (by omega) Vm HP.out HS.1 HS.2.2.2 HY.out
theorem sX:∀ (n:aE) (own:aB bP) (e:bP) (aS U g c:aE) (vb:az) (W:aw),e.p.length<=n->kj W aS U own g c vb->b7 own->anM own->e.bm.size<=80->e.text.size<=maxLen->e.p≠[]->own.length+e.p.length<=8000 ->
  ay aP 124 #[aj (aO U),ar #[ai e.bm, aa ag e.bE, ai e.text, aq e.opq]] W (iA (cZ own e) aS U g vb W)
 | n,own,e,aS,U,g,c,vb,W,hn,hU,hs,hF,hp,ht,hne,hl=>by
  cases hd:jG own (bU e.p)with
  | true =>rw[pM hd];exact Nj own e aS U g c vb W hU hs hF hp ht hne (by omega) own (.inl ⟨hd,rfl⟩) hs hF (by omega)
  | false=>
   have h0:bU e.p≠[]:=fun h0=>by rw[h0,kL]at hd;cases hd
   have Ep:=eY hne;rw[rC (by rw[hd];decide)];have Gf:e.p.length=e.bm.size:=ix e.bm;have tI:=qe (pD (fU (bU e.p)) 2).p.length (own:=own) (e:=pD (fU (bU e.p)) 2) (aV _) hs;rw[mD]at tI;cases n with
   | zero=>omega
   | succ n=>
    refine Nj own e aS U g c vb W hU hs hF hp ht hne (by omega) (cZ own (pD (fU (bU e.p)) 2)) (.inr ⟨hd,fun X d hdd hX=>?_⟩) tI.1 (Ad _ _ (aV _) hF ?_) (by omega)
    ·have hmk:pD d 2=pD (fU (bU e.p)) 2:=by rw[LG,hdd]
     have BQ:d.data.toList.length=d.size:=ix d;have:=sX n own (pD d 2) aS U g c vb X (by rw[A8,hdd];omega) hX hs hF (by show d.size<=80;rw[<- BQ,hdd];omega) (by show(ByteArray.mk #[]).size<=maxLen;unfold maxLen;decide) (by rw[A8,hdd];exact h0) (by rw[A8,hdd];omega);rw[<- show cZ own (pD d 2)=cZ own (pD (fU (bU e.p)) 2) by rw[hmk]];exact this
    ·omega
