import Derived.Test.YtjnkfelecopbjaaGreatDoorYA22
open Go.Proofs.Tryz
open Go.Value renaming int->aa,slice->ah,string->ai,pointer->aj,bool->aq,agg->ar,tuple->aL
open Go.IntKind renaming i64->ag
open Go.RowKit renaming Below->au
open Go renaming World->aw,Aside->ax,Calls->ay,Addr->aJ
open _root_ renaming ByteArray->aA,List->aB,Option->aC,Nat->aE,Int->aF
open Bool renaming false->aH,true->aI
open Go.Obj renaming cells->aM
open Option renaming none->aN,some->aO
open Go.Proofs.Tryz renaming prog->aP
set_option linter.all false
set_option maxHeartbeats 8000000
set_option maxRecDepth 100000
namespace Go.Proofs.YtjnkfelecopbjaaGreatDoor
open Go.RowKit PM Go.Sort
variable{dst bS:aA}{f:Fl}{o0 sl:aB bP}
theorem tQ.Xs{t:aB bP}(h:tQ t bS dst){y:bP}(hi:jC bS y=aI):y.p≠dst.data.toList:=fun e=>by
 unfold jC at hi;rw[e]at hi;rcases gZ _ _▸hi with h1|h1
 ·exact h.ne (dE h1).symm
 ·rw[h.S6]at h1;cases h1
def D5(bS dst:aA)(o0 sl:aB bP)(j:aE):aB bP:=iH bS dst o0 ((sl.take j).filter (jC bS))
theorem Je(bS dst:aA)(o0 sl:aB bP):D5 bS dst o0 sl 0=o0:=by simp[D5,iH]
theorem Dn{j:aE}{y:bP}(hy:sl[j]?=aO y):D5 bS dst o0 sl (j+1)=if jC bS y=aI then cZ (D5 bS dst o0 sl j) (ma bS dst y)else D5 bS dst o0 sl j:=by
 obtain⟨h1,h2⟩:=aQ.1 hy;unfold D5 iH;rw[dC h1,h2,eu];by_cases h:jC bS y=aI
 ·rw[aY h];simp[h]
 ·rw[aW h];simp[h]
theorem VY{j:aE}(hj:sl.length<=j):D5 bS dst o0 sl j=iH bS dst o0 (sl.filter (jC bS)):=by unfold D5;rw[cz hj]
theorem acB(h:tQ sl bS dst)(h0:SM o0)(hl:o0.length<=300):∀ j,j<=sl.length->SM (D5 bS dst o0 sl j)/\(D5 bS dst o0 sl j).length<=300+82*j:=by
 intro j;induction j with
 | zero=>intro _;rw[Je];exact⟨h0,by omega⟩
 | succ j ih=>
  intro hj;obtain⟨h1,h2⟩:=ih (by omega);obtain⟨y,hy⟩:∃ y,sl[j]?=aO y:=⟨_,aU (by omega)⟩
  rw[Dn hy];split
  ·rename_i mq
   have hm:=bw hy;have mz:=h.cl y hm (h.Xs mq) mq;have Z3:=sR mz;have Gf:=vW (ma bS dst y);refine⟨SM.have _ (aV _) h1 (gM mz) (by omega),?_⟩;have:=IC (e:=ma bS dst y) h1.anF;omega
  ·exact⟨h1,by omega⟩
theorem AU{own B:aB bP}{p:aA}(hs:b7 own)(hp:p.data.toList.length<=80):(ec own B p).length<=own.length+81:=by have h1:=(CM (B:=B) (p:=p) hs).1;have h2:p.size=p.data.toList.length:=rfl;omega
def XT(y:Lay)(ae:aF)(up:aB bP)(pl:aC aJ)(ln cl:aE)(W:aw)(r:Ending)(w':aw):Prop:=∃ (p:aC aJ) (n c:aE) (qA:aC aJ) (tK cl':aE),r=.returned (aL #[ar #[ah p n c,ah qA tK cl'],aa ag ae])/\au W W w'/\ax (ae=0->n=up.length/\qA=pl/\tK=ln/\cl'=cl/\bI w' p up/\n<=c/\(p=aN->c=0)/\((∀ b off sp,p=aO ⟨b,off,sp⟩->W.heap.size<=b)\/p=y.ad/\c=y.cap/\up=y.es))
theorem Hs.mov{y:Lay}{ae:aF}{up:aB bP}{pl:aC aJ}{ln cl:aE}{W:aw}{r:Ending}{w':aw}(h:Hs ae up pl ln cl W r w'):XT y ae up pl ln cl W r w':=by obtain⟨p,n,c,p',n',c',h1,h2,h3⟩:=h;exact⟨p,n,c,p',n',c',h1,h2,fun e=>by obtain⟨g1,g2,g3,g4,g5,g6,g7,g8⟩:=h3.out e;exact⟨g1,g2,g3,g4,g5,g6,g7,.inl g8⟩⟩
section
variable {W:aw}{y:Lay}{lo:aB Lay}{pl:aC aJ}{cl yn ln:aE}
structure MvC (W:aw) (y:Lay) (sl Bl o1 o0:aB bP) (bS dst:aA) (yn bn n1 n0:aE) (bt:Bool):Prop where
 d1:bt=aI->∀ X pb cb,au W W X->bI X pb Bl->ay aP 63 #[ah y.ad yn y.cap,ah pb bn cb,ai dst] X (iq o1 X)
 no:bt=aH->n1=yn/\o1=y.es
 l1:n1=o1.length
 d2:∀ X p1 c1 pb cb,bI X p1 o1->bI X pb Bl->ay aP 63 #[ah p1 n1 c1,ah pb bn cb,ai bS] X (iq o0 X)
 sj:∀ j x,sl[j]?=aO x->jC bS x=aI->∀ X p1 c1,bI X p1 (D5 bS dst o0 sl j)->ay aP 61 #[ah p1 (D5 bS dst o0 sl j).length c1,ar #[ai (dst++x.bm.extract bS.size x.bm.size),aa ag x.bE,ai x.text,aq x.opq]] X (iq (D5 bS dst o0 sl (j+1)) X)
 sz:dst.size<=80
theorem mvC(hU:eZ W y lo pl cl)(h0:(bH (y.es::lo.map (·.es))).1=0)(ku:yn=y.es.length){bn:aE}(Hc:bn=(bG (lo.map (·.es))).2.length)(hf:bS.size<=1048576)(hd:dst.size<=1048576)(hz:ez (cO (y.es::lo.map (·.es))) bS dst=0)(hne:¬ bS.data.toList=dst.data.toList):∃ o1 o0 n1 n0,MvC W y (cO (y.es::lo.map (·.es))) (bG (lo.map (·.es))).2 o1 o0 bS dst yn bn n1 n0 (bW (cO (y.es::lo.map (·.es))) dst).isSome/\kh y.es (bG (lo.map (·.es))).2 (cO (y.es::lo.map (·.es))) bS dst=D5 bS dst o0 (cO (y.es::lo.map (·.es))) (cO (y.es::lo.map (·.es))).length:=by
 obtain⟨_,hy,hB,_⟩:=mR h0;have hr:=cY (y.es::lo.map (·.es));generalize (cO (y.es::lo.map (·.es)))=sl at *;generalize (bG (lo.map (·.es))).2=Bl at *;have lH:=wQ hz hne;have Vl:=hB.len;have qg:=hy.len;have aiy:=hr.len;have hfl:bS.data.toList.length<=80:=by obtain⟨x,hx,yG⟩:=lH.src;rw[<- yG];exact sR (dX (hr.each x hx))
 have Pg:dst.data.toList.length<=80:=sR lH.Wp;have VC:bS.size=bS.data.toList.length:=rfl;have hts:dst.size=dst.data.toList.length:=rfl;have hS1:SM (fQ y.es Bl sl dst)/\(fQ y.es Bl sl dst).length<=161:=by
  unfold fQ;split
  ·exact⟨(tB hy).drop lH.Qc (by omega),by have:=AU (B:=Bl) (tB hy).anF Pg;omega⟩
  ·exact⟨tB hy,by omega⟩
 have hS0:SM (ec (fQ y.es Bl sl dst) Bl bS)/\(ec (fQ y.es Bl sl dst) Bl bS).length<=242:=
  ⟨hS1.1.drop lH.Af (by omega),by have:=AU (B:=Bl) hS1.1.anF hfl;omega⟩
 refine⟨fQ y.es Bl sl dst,ec (fQ y.es Bl sl dst) Bl bS,_,0,⟨fun hb X pb cb hX yB=>?_,fun hb=>?_,rfl,fun X p1 c1 pb cb lj yB=>?_,fun j x hx mq X p1 c1 lj=>?_,by omega⟩,(VY (aV _)).symm⟩
 ·have hc:fQ y.es Bl sl dst=ec y.es Bl dst:=by unfold fQ;rw[aY hb]
  rw[hc];exact Mq y.es Bl dst y.ad y.cap pb yn bn cb X ku Hc (hU.up.bB hX).anO yB (tB hy) (by omega) lH.Qc hd (by omega)
 ·have hc:fQ y.es Bl sl dst=y.es:=by unfold fQ;rw[hb];rfl
  exact⟨by rw[hc,ku],hc⟩
 ·exact Mq _ Bl bS p1 c1 pb _ bn cb X rfl Hc lj yB hS1.1 (by omega) lH.Af hf (by omega)
 ·have hj:j<sl.length:=(aQ.1 hx).1
  obtain⟨h3,h4⟩:=acB lH hS0.1 (by omega) j (by omega);have hm:=bw hx;have mz:=lH.cl x hm (lH.Xs mq) mq;have Z3:=sR mz;have Gf:=vW (ma bS dst x);rw[Dn hx,aY mq];exact TI _ (D5 bS dst (ec (fQ y.es Bl sl dst) Bl bS) sl j) (ma bS dst x) p1 c1 X (aV _) h3 (gM mz) (by omega) (show x.opq=aH from tD (hr.each x hm)) (by omega) lj
theorem Wg(bS dst:aA)(ku:yn=y.es.length)(ka:ln=lo.length)(hU:eZ W y lo pl cl)(h0:(bH (y.es::lo.map (·.es))).1=0)(hf:bS.size<=1048576)(hd:dst.size<=1048576):ay aP 35 #[ar #[ah y.ad yn y.cap,ah pl ln cl],ai bS,ai dst] W (XT y (dg (bH (y.es::lo.map (·.es))).1 (ez (cO (y.es::lo.map (·.es))) bS dst) (if bS.data.toList=dst.data.toList then y.es else kh y.es (bG (lo.map (·.es))).2 (cO (y.es::lo.map (·.es))) bS dst).length) (if bS.data.toList=dst.data.toList then y.es else kh y.es (bG (lo.map (·.es))).2 (cO (y.es::lo.map (·.es))) bS dst) pl ln cl W):=by
 obtain⟨sn,ik⟩:=ee ((cO (y.es::lo.map (·.es))).length)
 obtain⟨bn,Hc⟩:=ee ((bG (lo.map (·.es))).2.length)
 have Gh:=fun X (hX:au W.heap.size W X)=>GN (hU.bB hX) h0 ku ka ik
 have kG:=fun X p c (hL:bI X p (cO (y.es::lo.map (·.es)))) (hc:sn<=c)=>Zo _ bS dst p sn c X ik (cY _) hL hc hf hd
 have rU:∀ X,au W W X->ay aP 25 #[ah pl ln cl] X fun r w'=>∃ p c,r=.returned (aL #[ah p bn c,aa ag (jO (lo.map (·.es))).1])/\bI w' p (bG (lo.map (·.es))).2/\au X.heap.size X w':=fun X hX=>by have:=qQ lo pl cl X (hU.anO.bB hX) (fun x hx=>(hU.each x hx).1.bB hX) (fun x hx=>zJ h0 x (jc _ hx));rw[(mR h0).2.2.2.2.2,<- ka]at this;exact this.mono fun r w' ⟨p,c,h1,h2,_,_,h3,_⟩=>⟨p,c,by rw[Hc];exact h1,h2,h3⟩
 have xv:=cY (y.es::lo.map (·.es));have mK:=fun X p c (hL:bI X p (cO (y.es::lo.map (·.es))))=>ij (cO (y.es::lo.map (·.es))) dst p c X hL (by have:=xv.len;omega) _ _ rfl rfl
 rw[<- ik]at mK;have Sk:=mvC hU h0 ku Hc hf hd;have HE:ax (dg (bH (y.es::lo.map (·.es))).1 (ez (cO (y.es::lo.map (·.es))) bS dst) (if bS.data.toList=dst.data.toList then y.es else kh y.es (bG (lo.map (·.es))).2 (cO (y.es::lo.map (·.es))) bS dst).length=if ez (cO (y.es::lo.map (·.es))) bS dst=0 then(if 80<(if bS.data.toList=dst.data.toList then y.es else kh y.es (bG (lo.map (·.es))).2 (cO (y.es::lo.map (·.es))) bS dst).length then 5 else 0)else ez (cO (y.es::lo.map (·.es))) bS dst):=by show _=_;rw[dg,aY h0]
 have HUP:ax ((bS.data.toList=dst.data.toList->(if bS.data.toList=dst.data.toList then y.es else kh y.es (bG (lo.map (·.es))).2 (cO (y.es::lo.map (·.es))) bS dst)=y.es)/\(¬ bS.data.toList=dst.data.toList->(if bS.data.toList=dst.data.toList then y.es else kh y.es (bG (lo.map (·.es))).2 (cO (y.es::lo.map (·.es))) bS dst)=kh y.es (bG (lo.map (·.es))).2 (cO (y.es::lo.map (·.es))) bS dst)):=⟨fun e=>aY e,fun e=>aW e⟩
 have HY:ax (bI W y.ad y.es/\y.es.length<=y.cap/\(y.ad=aN->y.cap=0)/\y.es.length<=80/\yn=y.es.length):=⟨hU.up.anO,hU.up.cap,hU.Wq,(mR h0).2.1.len,ku⟩
 generalize dg _ _ _=ch at HE ⊢;generalize (if bS.data.toList=dst.data.toList then y.es else kh y.es (bG (lo.map (·.es))).2 (cO (y.es::lo.map (·.es))) bS dst)=up at HE HUP ⊢;generalize kh _ _ _ _ _=mu at HUP Sk;generalize ez _ bS dst=ae at kG Sk HE;generalize (jO _).1=me at rU;generalize (bG (lo.map (·.es))).2=Bl at rU Sk;generalize (bW (cO (y.es::lo.map (·.es))) dst).getD cR=b at mK;generalize (bW (cO (y.es::lo.map (·.es))) dst).isSome=bt at mK Sk;generalize (cO (y.es::lo.map (·.es)))=sl at *;obtain⟨bp,bk,bx,bo⟩:=b;have HSL:ax (du aH sl/\sn=sl.length):=⟨xv,ik⟩
 have HMC:ax (ae=0->¬ bS.data.toList=dst.data.toList->∃ o1 o0 n1 n0,MvC W y sl Bl o1 o0 bS dst yn bn n1 n0 bt/\mu=D5 bS dst o0 sl sl.length):=Sk;have Y1:sn<=80:=by have:=xv.len;omega
 clear ik ku ka hU h0 Hc xv Sk;go_enter func35,ntmps35;go_upto_region 0 with fail
 go_cut [3,6,7]from 3 to 7 (fun s2 s4 s5 wx=>∃ R,s2=aj (aO W)/\s4=aj (aO ⟨R,0,aN⟩)/\s5=aa ag 0/\ax (UB W (ah y.ad yn y.cap) (ah pl ln cl) R wx))
 case first=>
  go_wp2_with fail;go_meet
  case rel=>exact⟨_,rfl,rfl,rfl,UB.new W _ _⟩
 obtain⟨R,rfl,rfl,rfl,HR⟩:=hcut;obtain⟨⟨u0,u1⟩,_⟩:=HR.cells;go_upto_region 9 with(first
  | (go_at_call 26;refine(Gh _ HR.low).mono ?_;clear Gh;rintro rr w1 ⟨p1,c1,rfl,H1,hN⟩;replace HR:ax (UB W _ _ R w1):=HR.on hN;have Ef:=H1.2.1;have HS:ax (bI w1 p1 sl):=H1.1;clear u0 u1 hN H1)
  | (go_at_call 64;refine(kG _ p1 c1 HS.out Ef).mono ?_;clear kG;rintro rr w2 ⟨⟨v2,rfl⟩,hN⟩;replace HR:ax (UB W _ _ R w2):=HR.on hN;replace HS:ax (bI w2 p1 sl):=HS.bB hN;obtain⟨⟨u0,u1⟩,⟨r0,r1⟩,⟨g0,g1⟩,⟨n0,n1⟩,n2,n3⟩:=HR.cells;clear hN))
 ·have hz:¬ ae=0:=by simpa using ‹(ae != 0)=aI›
  obtain⟨⟨x0,x1⟩,_⟩:=HR.done (ah aN 0 0) (ah aN 0 0);refine ba (v:=aL #[ar #[ah aN 0 0,ah aN 0 0],aa ag ae]) (by simp[results,results35,go_sem,x0,x1]) rfl ?_;rw[HE.out,aW hz];exact Hs.mov (HR.end fun e=>absurd e hz)
 ·have hz:ae=0:=by simpa using ‹(ae != 0)=aH›
  have hq:up=y.es:=HUP.1 (by have:=‹(bS.toList == dst.toList)=aI›;rw[bq,bq]at this;simpa using this);obtain⟨⟨x0,x1⟩,hB⟩:=HR.done (ah y.ad yn y.cap) (ah pl ln cl);refine ba (v:=aL #[ar #[ah y.ad yn y.cap,ah pl ln cl],aa ag 0]) (by simp[results,results35,go_sem,x0,x1]) rfl ?_;obtain⟨h1,h2,h3,h4,h5⟩:=HY.out;rw[HE.out,aY hz,hq,aW (by omega)];have sZ:y.es=[]\/∀ b off s,y.ad=aO ⟨b,off,s⟩->b≠R:=h1.imp id fun⟨b,off,e,hb,_⟩ b' off' s' e'=>by rw[e]at e';cases e';have:=HR.ne;omega
  exact⟨y.ad,yn,y.cap,pl,ln,cl,rfl,hB,fun _=>⟨h5,rfl,rfl,rfl,vR (vR (h1.bB HR.low) _ _ sZ) _ _ sZ,by omega,h3,.inr ⟨rfl,rfl,rfl⟩⟩⟩
 have hz:ae=0:=by simpa using ‹(ae != 0)=aH›
 have hne:¬ bS.data.toList=dst.data.toList:=by have:=‹(bS.toList == dst.toList)=aH›;rw[bq,bq]at this;simpa using this
 obtain⟨o1,o0,m1,_,HM,hmu⟩:=HMC.out hz hne;have HF:ax (ch=(if 80<up.length then 5 else 0)/\up=D5 bS dst o0 sl sl.length):=⟨by rw[HE.out,aY hz],(HUP.2 hne).trans hmu⟩
 have Eg:=HM.sz;replace HM:ax (MvC W y sl Bl o1 o0 bS dst yn bn m1 _ bt):=HM;clear HE HUP HMC hz hne hmu;go_upto_if 57 with(first
  | (go_at_call 25;refine(rU _ HR.low).mono ?_;clear rU;rintro rr w5 ⟨pb,cb,rfl,yB,hN⟩;replace HR:ax (UB W _ _ R w5):=HR.on hN;replace HS:ax (bI w5 p1 sl):=HS.bB hN;have HL:ax (bI w5 pb Bl):=yB;clear u0 u1 r0 r1 g0 g1 n2 n3;obtain⟨⟨u0,u1⟩,_⟩:=HR.cells;clear hN yB)
  | (go_at_call 31;refine(mK _ p1 c1 HS.out).mono ?_;clear mK;rintro rr w6 ⟨rfl,hN⟩;replace hN:=hN.alloc hN.size (aM #[ai bp,aa ag bk,ai bx,aq bo] 88);replace HR:ax (UB W _ _ R _):=HR.on hN;replace HS:ax (bI _ p1 sl):=HS.bB hN;replace HL:ax (bI _ pb Bl):=HL.bB hN;clear u0 u1 hN))
 go_cut [14]from 58 to 61 (fun v wx=>∃ q1 d1,v=ah q1 m1 d1/\ax (UB W (ah y.ad yn y.cap) (ah pl ln cl) R wx/\bI wx p1 sl/\bI wx pb Bl/\bI wx q1 o1))
 case first=>
  cases bt
  ·obtain⟨rfl,rfl⟩:=HM.no rfl
   go_wp2_with fail;go_meet
   case rel=>exact⟨y.ad,y.cap,rfl,HR.out,HS.out,HL.out,HY.1.bB HR.low⟩
  ·have Z4:=HM.d1 rfl
   go_wp2_with (go_at_call 63;refine(Z4 _ pb cb HR.low HL.out).mono ?_;clear Z4;rintro rr w7 ⟨⟨v7,rfl,KT⟩,hN⟩;obtain⟨q1,d1,rfl,hL7,_⟩:=qm HM.l1 KT;have H7:ax (UB W _ _ R w7/\bI w7 p1 sl/\bI w7 pb Bl/\bI w7 q1 o1):=⟨HR.on hN,HS.bB hN,HL.bB hN,hL7⟩;clear KT hN hL7);go_meet
   case rel=>exact⟨q1,d1,rfl,H7.out⟩
 obtain⟨q1,d1,rfl,HA⟩:=hcut;clear HR HS HL;have sY:=HM.d2 wc q1 d1 pb cb HA.2.2.2 HA.2.2.1;go_wp2_with (go_at_call 63;refine sY.mono ?_;clear sY;rintro rr w8 ⟨⟨v8,rfl,uF⟩,hN⟩;have H8:ax (UB W _ _ R w8/\bI w8 p1 sl/\Rows w8 (R+1) v8 o0):=⟨HA.1.on hN,HA.2.1.bB hN,uF.mono HA.1.cells.2.2.2.2.2⟩;clear uF hN);go_loopg [14,68] sn (fun gg v i wr=>∃ k:aE,k<=sn/\sn-k<=gg/\i=aa ag k/\ax (UB W (ah y.ad yn y.cap) (ah pl ln cl) R wr/\bI wr p1 sl/\Rows wr (R+1) v (D5 bS dst o0 sl k)))
 case atStart=>exact⟨0,bF _,by omega,rfl,H8.1,H8.2.1,by rw[Je];exact H8.2.2⟩
 case round=>
  obtain⟨k,hk,oP,rfl,HI⟩:=hrel;by_cases gm:k<sn
  ·have eN:(k:aF)<(sn:aF):=by omega
   obtain⟨x,hx⟩:∃ x,sl[k]?=aO x:=⟨_,aU (by have:=HSL.2;omega)⟩
   have HX:ax (sl[k]?=aO x):=hx;have alN:=o4 HSL.1 (bw hx);rcases HI.2.1 with h0|⟨b,off,rfl,hb,hc⟩
   ·rw[h0]at hx;simp at hx
   obtain⟨c0,c1',c2,c3⟩:=bI.cells hc hb (aR _ _) hx;clear hc hx;have Gj:=fun Y=>oZ x.bm bS Y (by unfold maxLen;omega) (by unfold maxLen;omega)
   cases mq:jC bS x
   ·obtain⟨h1,h2⟩:=mj.1 mq
    obtain⟨e1,e2⟩:=j8 (gw h1);rw[show anG x.bm bS.data.toList=aH from h2]at Gj;have HK:ax (D5 bS dst o0 sl (k+1)=D5 bS dst o0 sl k):=by show _=_;rw[Dn HX.out,mq];rfl
    clear h1 h2;go_wp2_with (go_at_call 36;refine(Gj _).mono ?_;rintro rr wx ⟨rfl,Hh⟩;subst wx);go_roundg (sn-(k+1))
    case measure=>omega
    case rel =>have hB:=(aR _ wr).alloc (aV _) (aM #[ai x.bm,aa ag x.bE,ai x.text,aq x.opq] 88);exact⟨k+1,by omega,by omega,by go_num,HI.1.on hB,HI.2.1.bB hB,by rw[HK.out];exact HI.2.2.below hB⟩
   ·have VN:(bS.size:aF)<=(x.bm.size:aF):=by have:=vN mq;omega
    have hsj:=HM.sj k x HX.out mq;obtain⟨new,j5⟩:=o7 (dst++x.bm.extract bS.size x.bm.size)
    rw[j5]at hsj;obtain⟨ol,VJ⟩:=ee ((D5 bS dst o0 sl k).length)
    obtain⟨po,co,rfl,WU,_⟩:=qm VJ HI.2.2;rw[<- VJ]at hsj;have ace:=fun X (hX:au wr.heap.size wr X)=>hsj X po co (WU.bB hX)
    have HB:ax (au wr wr (wr.alloc (aM #[ai new,aa ag x.bE,ai x.text,aq x.opq] 88))):=(aR _ _).alloc (aV _) _;have SB:(x.bm.toList == bS.toList)=aH->∀ Y,ay aP 36 #[ai x.bm,ai bS] Y fun e w'=>e=.returned (aq aI)/\w'=Y:=fun e Y=>by have:=Gj Y;unfold jC at mq;rw[show anG x.bm bS.data.toList=aI from(jx.1 mq).elim (fun g=>absurd e (by rw[(kZ (dE g)).1];decide)) id]at this;exact this
    clear hsj WU mq Gj VJ;cases e1:(x.bm.toList == bS.toList);all_goals
     go_wp2_with (first
      | (go_at_call 36;refine(SB e1 _).mono ?_;clear SB;rintro rr wx ⟨rfl,Hh⟩;subst wx)
      | (go_at_call 61;refine(ace _ HB.out).mono ?_;clear ace;rintro rr w4 ⟨⟨v4,rfl,uW⟩,hN⟩;have H4:ax (Rows w4 (R+1) v4 (D5 bS dst o0 sl (k+1))/\au wr wr w4):=⟨uW.mono (bc HI.1.cells.2.2.2.2.2 HB.size),Below.bK HB.out hN⟩;clear uW hN))
     go_roundg (sn-(k+1))
     case measure=>omega
     case rel=>exact⟨k+1,by omega,by omega,by go_num,HI.1.on H4.2,HI.2.1.bB H4.2,H4.1⟩
  ·obtain rfl:k=sn:=by omega
   have eN:¬ (k:aF)<(k:aF):=by omega
   obtain⟨un,nI⟩:=ee up.length
   obtain⟨de,wN⟩:∃ de:aF,de=if 80<un then 5 else 0:=⟨_,rfl⟩
   have hro:=HI.2.2;rw[HSL.2,<- HF.2]at hro;obtain⟨po,co,rfl,WU,hco,hno,F8⟩:=qm nI hro;have H3:ax (bI wr po up/\un<=co/\(po=aN->co=0)/\∀ b off sp,po=aO ⟨b,off,sp⟩->W.heap.size<=b/\b≠R):=⟨WU,hco,hno,fun b off sp e=>by have:=F8 b off sp e;have:=HI.1.ne;omega⟩
   have HC:ax (ch=de/\de=(if 80<un then 5 else 0)/\un=up.length):=⟨by rw[HF.1,wN,nI],wN,nI⟩
   obtain⟨⟨u0,u1⟩,⟨r0,r1⟩,⟨g0,g1⟩,_,n2,n3⟩:=HI.1.cells;clear hro WU hco hno F8 wN nI;go_wp2_with (go_at_call 60;refine(rvDone _ _ _ _ _ _ po un co _ de HC.2.1).mono ?_;rintro rr w4 ⟨p4,l4,c4,q4,n4,d4,rfl,hN,H4⟩;replace H3:ax _:=fB (H3.1.bB hN) H3.2;have HB:ax (UB W _ _ R w4):=HI.1.on hN;clear u0 u1 r0 r1 g0 g1 n2 n3;obtain⟨⟨u0,u1⟩,⟨r0,r1⟩,⟨g0,g1⟩,_,n2,n3⟩:=HB.cells;clear hN);obtain⟨⟨x0,x1⟩,_⟩:=HB.done (ah p4 l4 c4) (ah q4 n4 d4);refine ba (v:=aL #[ar #[ah p4 l4 c4,ah q4 n4 d4],aa ag de]) (by simp[results,results35,go_sem,x0,x1]) rfl ?_;rw[HC.1];exact Hs.mov (HB.end fun e=>by
    obtain⟨rfl,rfl,rfl,rfl,rfl,rfl⟩:=H4.out (by rw[HC.2.1]at e;split at e<;>omega);exact⟨⟨HC.2.2,rfl,rfl,rfl⟩,H3.out⟩)
end
section
variable {aS:aE}{W w w':aw}{B:aE}{s s':Sy}{L L1 L2:ja}
theorem St.TT{F:aw->Prop}(h:St (yJ B L1) w F)(hk:cA (gV B L1) w w')(hm:∀ b,gV B L2 b->gV B L1 b\/w.heap.size<=b)(hx:L2.ex=L1.ex):St (yJ B L2) w' F:=fun Y hY=>
 h Y ⟨bc hk.size hY.size,fun b hb hn=>(hY.block b (aZ hb hk.size) (fun e=>e.elim (fun e=>(hm b e).elim (fun e=>hn (.inl e)) (fun e=>by omega)) (fun e=>hn (.inr (hx▸e))))).trans (hk.block b hb (fun e=>hn (.inl e)))⟩
theorem yw(h:cW aS W B s L){up:aB bP}{p:aC aJ}{n c:aE}{qA:aC aJ}{tK cl':aE}(hB:au W W w)(H:n=up.length/\qA=L.pl/\tK=L.lo.length/\cl'=L.cl/\bI w p up/\n<=c/\(p=aN->c=0)/\((∀ b off sp,p=aO ⟨b,off,sp⟩->W.heap.size<=b)\/p=L.y.ad/\c=L.y.cap/\up=L.y.es))(h0:(bH (up::s.cq)).1=0)(hP:iU aS B s' L w w')(II:s'.cq=s.cq):ay aP 13 #[aj (aO B),ar #[ah p n c,ah qA tK cl'],aa ag 0] w' fun r W'=>r=.returned (aa ag 0)/\∃ L2,(cW aS w' B s' L2/\(∀ b,gV B L2 b->gV B L b\/w.heap.size<=b)/\L2.ex=L.ex)/\iU aS B (s'.di up s.cq) L2 w' W':=by
 obtain⟨rfl,rfl,rfl,rfl,e1,e2,e3,e4⟩:=H;have hX:=h.bB hB;obtain⟨⟨L2,g1,g2,g3⟩,g4,g5⟩:=hP;have hr:du aI up:=(gT.1 h0).2.2 up (by simp);have hu:St (yJ B L2) w' fun Y=>eZ Y ⟨p,c,up⟩ L.lo L.pl L.cl:=by
  rcases e4 with e4|⟨rfl,rfl,rfl⟩
  ·exact St.TT (TX hX e1 e2 e3 (fun b off sp e hb=>by have:=(h.Mz hb).2;have:=e4 b off sp e;omega) hr) g5 g2 g3
  ·exact St.TT (F:=fun Y=>eZ Y L.y L.lo L.pl L.cl) (fun Y hY=>(hX.data Y hY).un) g5 g2 g3
 have:=AM g1 ⟨p,c,up⟩ L.lo L.pl L.cl up.length L.lo.length rfl rfl hu (by rw[h.low];exact h0);refine this.mono fun r W' ⟨hr,hp⟩=>⟨hr,L2,⟨g1,g2,g3⟩,?_⟩
 rw[h.low]at hp;exact hp.post
def PM.Sy.np(s:Sy)(g:Fl->Fl)(k:aE):Sy:={ s with bh:=s.bh.mapIdx fun i f=>if i<k then g f else f }
theorem SX(g:Fl->Fl):s.np g 0=s:=by
 unfold Sy.np;have:(s.bh.mapIdx fun i f=>if i<0 then g f else f)=s.bh:=by apply dz;intro i;rw[bO];cases s.bh[i]?<;>simp
 rw[this]
theorem LA{g:Fl->Fl}{k:aE}(hf:s.bh[k]?=aO f):(s.np g k).bh[k]?=aO f:=by show(s.bh.mapIdx _)[k]?=_;rw[bO,hf];simp
theorem Jb{g:Fl->Fl}{k:aE}(hf:s.bh[k]?=aO f):s.np g (k+1)=(s.np g k).dQ k (g f):=by
 unfold Sy.np Sy.dQ;congr 1;apply dz;intro i;simp only;rw[bO,eR];by_cases e:k=i
 ·subst e
  have hl:=(aQ.1 hf).1;rw[aY rfl,aY (by simpa using hl),hf];simp
 ·rw[aW e,bO]
  cases h:s.bh[i]? with
  | none=>rfl
  | some x=>
   simp only[dF];by_cases hi:i<k
   ·rw[aY hi,aY (by omega)]
   ·rw[aW hi,aW (by omega)]
theorem VV(g:Fl->Fl):s.np g s.bh.length={ s with bh:=s.bh.map g }:=by
 unfold Sy.np;congr 1;apply dz;intro i;rw[bO,cD];cases h:s.bh[i]? with
 | none=>rfl
 | some x =>have:=(aQ.1 h).1;simp[this]
theorem cW.acH(h:cW aS W B s L){i:aE}(hf:s.bh[i]?=aO f){g c:aE}(hv:L.vo=ah (aO g) s.bh.length c)(q:aA):(∃ L',cW aS (W.setCell ⟨g,i*3,aN⟩ (ai q)) B (s.dQ i { f with bm:=q }) L'/\L'.vo=L.vo/\L'.vd=L.vd/\L'.ex=L.ex)/\iU aS B (s.dQ i { f with bm:=q }) L W (W.setCell ⟨g,i*3,aN⟩ (ai q)):=by obtain⟨_,_,x,_,hx,_,_,_,_,_,e1,e2,e3,e4,e5,e6⟩:=h.obj hf;obtain⟨k1,k2⟩:=h.Ba (y:={ x with bm:=q }) hx hv (j:=0) (v:=ai q) (by decide) rfl;obtain⟨g1,g2⟩:=h.cM (f':={ f with bm:=q }) k2 k1 rfl e2 e3 (fun Y hY=>by obtain⟨x',Ph,_,_,_,hl,_⟩:=(h.data Y hY).b9 i f hf;rw[hx]at Ph;cases Ph;exact hl) (by rw[e3];exact e5) e6;exact⟨⟨_,g1,rfl,rfl,rfl⟩,⟨_,g1,fun b hb=>.inl hb,rfl⟩,(aR aS W).setCell (p:=⟨g,i*3,aN⟩) (h.objs.lt g (by rw[hv];rfl)).1 _,g2⟩
end
section
variable {aS:aE}{W:aw}{B:aE}{s:Sy}{L:ja}
theorem MR(h:cW aS W B s L)(cf cn cm:aF)(cp ct cx:aA)(ca:Bool)(ow:aE)(how:ow<4)(tG:cp.size<=1048576)(h0:(bH s.all).1=0)(iL:s.bh.length<1000000):ay aP 14 #[aj (aO B),ar #[aa ag 7,aa ag ow,aa ag cf,aa ag cn,aa ag cm,ai cp,ai ct,ai cx,aq ca]] W (ic aS B (if s.pE 7 cp=0 then(s.iZ (fU (s.kH cp)) s.bh.length).di (ec s.up (bG s.cq).2 (fU (s.kH cp))) s.cq else s) (if s.pE 7 cp=0 then gz 0 ⟨#[]⟩else km (s.pE 7 cp)) L W):=by
 have HS:ax (gL aS B s L W ⟨7,ow,cf,cn,cm,cp,ct,cx,ca⟩ _):=gL.start h _;have iG:∀ w,gL aS B s L W ⟨7,ow,cf,cn,cm,cp,ct,cx,ca⟩ w->ay aP 30 #[aj (aO B),ai cp,aq aH] w (jk (dV s.bA aH cp).1 (dV s.bA aH cp).2 w):=fun w hw=>by obtain⟨L1,h1,_⟩:=hw.ex;exact lU h1 cp tG _
 generalize hR:ic aS B _ _ L W=R at *;have HR:ax (_=R):=hR;have qu:ax ((dV s.bA aH cp).2.length<=80):=jI _ _ _;unfold Sy.pE Sy.kH at HR;generalize dV s.bA aH cp.data.toList=Q at iG qu HR;obtain⟨er,q⟩:=Q;simp only at iG qu HR;clear hR h;have g1:decide ((ow:aF)<0)=aH:=bD (by omega);have g2:decide (3<(ow:aF))=aH:=bD (by omega);go_enter func14,ntmps14;go_upto_region 0 with fail
 go_cut [3,4]from 3 to 4 (fun s3 s4 w=>s3=aj (aO W)/\s4=aj (aO ⟨↑W+1,0,aN⟩)/\ax (gL aS B s L W ⟨7,ow,cf,cn,cm,cp,ct,cx,ca⟩ w))
 case first=>
  go_wp2_with fail;go_meet
  case rel=>exact⟨rfl,rfl,HS.out⟩
 obtain⟨rfl,rfl,HO⟩:=hcut;clear HS;obtain⟨⟨k0,k1,k2,k3,k4,k5,k6,k7,k8⟩,kl⟩:=HO.cells;go_upto_region 16 with fail
 go_cut [5,6]from 19 to 69 (fun s5 s6 w=>∃ p:aA,s5=ai p/\s6=aa ag er/\ax (p.data.toList=q/\gL aS B s L W ⟨7,ow,cf,cn,cm,cp,ct,cx,ca⟩ w))
 case first=>
  go_wp2_with (go_at_call 30;refine(iG _ HO.out).mono ?_;rintro r w3 ⟨p,rfl,hp,hB⟩;have HP:ax _:=fB hp (HO.pure hB);clear hp hB);go_meet
  case rel=>exact⟨p,rfl,rfl,HP.out⟩
 obtain⟨p,rfl,rfl,HP⟩:=hcut;clear HO k0 k1 k2 k3 k4 k5 k6 k7 k8 kl iG g1 g2;have HO:ax _:=HP.2;obtain⟨⟨k0,k1,k2,k3,k4,k5,k6,k7,k8⟩,kl⟩:=HO.cells;by_cases ni:er=0;rotate_left
 ·have C3:(er != 0)=aI:=by simpa using ni
  go_wp2_with (go_at_call 27;refine(fP _ _).mono ?_;rintro r wb ⟨rfl,fR⟩;have HB:ax _:=HO.pure fR;obtain⟨⟨b0,b1,b2,b3⟩,z0,z1,z2,z3⟩:=cK HB.gz;clear fR);exact ba (v:=ar #[aa ag er,aa ag 0,ai ⟨#[]⟩,ah aN 0 0]) (by simp[results,results14,go_sem,b0,b1,b2,b3]) rfl (by rw[<- HR.out,aY ni,aW ni,aW ni];exact HB.iT er 0 ⟨#[]⟩)
 subst ni;obtain⟨L1,h1,lj⟩:=HO.ex;obtain⟨_,_,c2,_⟩:=h1.cells;obtain⟨sn,ik⟩:∃ n,n=s.bA.length:=⟨_,rfl⟩
 rw[<- ik]at c2;have gI:=Ed s.bA p L1.ps sn L1.sc wc ik h1.data.now.bA (cY s.all) ((bW s.bA p).getD cR) (bW s.bA p).isSome rfl rfl;rw[HP.1]at gI;generalize (bW s.bA q).getD cR=e at gI HR;generalize (bW s.bA q).isSome=b at gI HR;obtain⟨ep,ek,et,eo⟩:=e;simp only at gI HR;have lB:=h1.lt;clear ik;go_upto_region 19 with fail
 go_cut [7,8]from 70 to 82 (fun s7 s8 w=>∃ E:aE,s7=aj (aO E)/\s8=aq b/\w.cell? ⟨E,1,aN⟩=aO (aa ag ek)/\w.cell? ⟨E,2,aN⟩=aO (ai et)/\ax (gL aS B s L W ⟨7,ow,cf,cn,cm,cp,ct,cx,ca⟩ w))
 case first=>
  go_wp2_with (go_at_call 31;refine gI.mono ?_;rintro r w4 ⟨rfl,eO⟩;have HB:ax _:=HO.pure eO;clear eO);go_meet
  case rel=>exact⟨_,rfl,rfl,by simp,by simp,HB.pure ((Grown.refl _).alloc _).below⟩
 clear gI c2 k0 k1 k2 k3 k4 k5 k6 k7 k8 kl HO h1 lB;obtain⟨E,rfl,rfl,E1,E2,HO⟩:=hcut;obtain⟨⟨k0,k1,k2,k3,k4,k5,k6,k7,k8⟩,kl⟩:=HO.cells;cases b
 ·go_wp2_with (go_at_call 27;refine(fP _ _).mono ?_;rintro r wb ⟨rfl,fR⟩;have HB:ax _:=HO.pure fR;obtain⟨⟨b0,b1,b2,b3⟩,z0,z1,z2,z3⟩:=cK HB.gz;clear fR)
  exact ba (v:=ar #[aa ag 6,aa ag 0,ai ⟨#[]⟩,ah aN 0 0]) (by simp[results,results14,go_sem,b0,b1,b2,b3]) rfl (by rw[<- HR.out];simp[];exact HB.iT 6 0 ⟨#[]⟩)
 cases hk:(ek != 2);rotate_left
 ·have j4:¬ ek=2:=by simpa using hk
  have HK:ax (¬ ek=2):=j4;clear j4;go_wp2_with (go_at_call 27;refine(fP _ _).mono ?_;rintro r wb ⟨rfl,fR⟩;have HB:ax _:=HO.pure fR;obtain⟨⟨b0,b1,b2,b3⟩,z0,z1,z2,z3⟩:=cK HB.gz;clear fR);exact ba (v:=ar #[aa ag 10,aa ag 0,ai ⟨#[]⟩,ah aN 0 0]) (by simp[results,results14,go_sem,b0,b1,b2,b3]) rfl (by rw[<- HR.out];simp[HK.out];exact HB.iT 10 0 ⟨#[]⟩)
 have HK:ax (ek=2):=by show ek=2;simpa using hk
 by_cases hq:q=[]
 ·have td:p=⟨#[]⟩:=fV (by rw[HP.1,hq])
  subst td;have HQ:ax (q=[]):=hq;clear hq;go_wp2_with (go_at_call 27;refine(fP _ _).mono ?_;rintro r wb ⟨rfl,fR⟩;have HB:ax _:=HO.pure fR;obtain⟨⟨b0,b1,b2,b3⟩,z0,z1,z2,z3⟩:=cK HB.gz;clear fR);exact ba (v:=ar #[aa ag 8,aa ag 0,ai ⟨#[]⟩,ah aN 0 0]) (by simp[results,results14,go_sem,b0,b1,b2,b3]) rfl (by rw[<- HR.out];simp[HK.out,HQ.out];exact HB.iT 8 0 ⟨#[]⟩)
 have BU:p.toList.isEmpty=aH:=by rw[bq,HP.1];simpa using hq
 obtain⟨L2,HL⟩:=HO.ex;have h1:=HL.1;obtain⟨c0,c1,_⟩:=h1.cells;obtain⟨yn,ku⟩:∃ n,n=L2.y.es.length:=⟨_,rfl⟩
 obtain⟨ln,ka⟩:∃ n,n=L2.lo.length:=⟨_,rfl⟩
 have Ak:p.size<=80:=by have:=qu.out;rw[<- ix,HP.1];exact this
 have rh:=fun Y (hY:au wc.heap.size wc Y)=>TG (W:=Y) (pl:=L2.pl) (cl:=L2.cl) p ku ka ((h1.data.now.un).bB hY) (by rw[h1.up,h1.low];exact h0) (by omega)
 rw[h1.up,h1.low]at rh;have iM:=fun e=>(wV (up:=s.up) (cq:=s.cq) (q:=p) e).1
 have HE:∀ ae,dg (bH (s.up::s.cq)).1 (eP (cO (s.up::s.cq)) p) (ec s.up (bG s.cq).2 p).length=ae->R=ic aS B (if ae=0 then(s.iZ p s.bh.length).di (ec s.up (bG s.cq).2 p) s.cq else s) ⟨ae,0,⟨#[]⟩,[]⟩ L W:=fun ae e=>by
  have rb:fU q=p:=fV (by rw[HP.1];simp[fU]);rw[<- HR.out,rb];have e':dg (bH s.all).1 (eP s.bA q) (ec s.up (bG s.cq).2 p).length=ae:=by rw[<- HP.1];exact e
  simp[HK.out,hq,e'];by_cases hz:ae=0
  ·simp[hz];rfl
  ·simp[hz];rfl
 rw[<- ku]at c0;rw[<- ka]at c1;have HH:ax ((cW aS wc B s L2/\(∀ b,gV B L2 b->gV B L b\/W.heap.size<=b)/\L2.ex=fun b=>b=W.heap.size+1\/L.ex b)/\ln=L2.lo.length):=⟨HL,ka⟩
 have lB:=h1.lt;generalize (ec s.up (bG s.cq).2 p)=up at rh iM HE;generalize dg (bH (s.up::s.cq)).1 (eP (cO (s.up::s.cq)) p) up.length=ae at rh iM HE;have HE:=HE ae rfl;have HF:ax (R=ic aS B (if ae=0 then(s.iZ p s.bh.length).di up s.cq else s) ⟨ae,0,⟨#[]⟩,[]⟩ L W/\(ae=0->(bH (up::s.cq)).1=0)):=⟨HE,iM⟩
 clear HL h1 ku ka HE HR iM;go_upto_region 39 with fail
 go_cut [10,11]from 113 to 145 (fun s10 s11 w=>∃ (U:aE) (pp:aC aJ) (n4 c4:aE) (vp:aC aJ) (vk ve:aE),s10=aj (aO U)/\s11=aa ag ae/\w.cell? U=aO (ah pp n4 c4)/\w.cell? ⟨U,1,aN⟩=aO (ah vp vk ve)/\ax (w.heap[U]?=aO (aM #[ah pp n4 c4,ah vp vk ve] 26)/\au wc wc w/\(ae=0->n4=up.length/\vp=L2.pl/\vk=L2.lo.length/\ve=L2.cl/\bI w pp up/\n4<=c4/\(pp=aN->c4=0)/\∀ b off sp,pp=aO ⟨b,off,sp⟩->wc.heap.size<=b)))
 case first=>
  go_wp2_with (go_at_call 33;refine(rh _ (aR _ _)).mono ?_;clear rh;rintro r w4 ⟨pp,n4,c4,vp,vk,ve,rfl,eO,H4⟩;have kT:ax (au wc wc w4):=eO;clear eO);go_meet
  case rel=>exact⟨_,pp,n4,c4,vp,vk,ve,rfl,rfl,by simp,by simp,heap_alloc_last _ _,kT.alloc kT.size _,fun e=>by obtain⟨a1,a2,a3,a4,a5,a6,a7,a8⟩:=H4.out e;exact⟨a1,a2,a3.trans HH.2,a4,a5.bB ((Grown.refl _).alloc _).below,a6,a7,a8⟩⟩
 obtain⟨U,pp,n4,c4,vp,vk,ve,rfl,rfl,u0,u1,HU⟩:=hcut;replace HO:=show ax _ from HO.pure HU.2.1
 cases hz:(ae != 0);rotate_left
 ·have HZ:ax (¬ ae=0):=by show ¬ ae=0;simpa using hz
  go_wp2_with (go_at_call 27;refine(fP _ _).mono ?_;rintro r wb ⟨rfl,fR⟩;have HB:ax _:=HO.pure fR;obtain⟨⟨b0,b1,b2,b3⟩,z0,z1,z2,z3⟩:=cK HB.gz;clear fR);exact ba (v:=ar #[aa ag ae,aa ag 0,ai ⟨#[]⟩,ah aN 0 0]) (by simp[results,results14,go_sem,b0,b1,b2,b3]) rfl (by rw[HF.1,aW HZ.out];exact HB.iT ae 0 ⟨#[]⟩)
 have ou:ae=0:=by simpa using hz
 subst ou;have GY:ax (cW aS wc B s L2):=HH.1.1.bB HU.2.1;have vh:=yv GY.out p iL;have kQ:=fun w' (hP:iU aS B (s.iZ p s.bh.length) L2 wc w')=>yw HH.1.1 HU.2.1 (by obtain⟨a1,a2,a3,a4,a5,a6,a7,a8⟩:=HU.2.2 rfl;exact⟨a1,a2,a3,a4,a5,a6,a7,.inl a8⟩) (HF.2 rfl) hP rfl
 have HG:ax (R=ic aS B ((s.iZ p s.bh.length).di up s.cq) ⟨0,0,⟨#[]⟩,[]⟩ L W):=by have:=HF.1;rw[aY rfl]at this;exact this
 have HC:ax (gL aS B s L W ⟨7,ow,cf,cn,cm,cp,ct,cx,ca⟩ wc/\wc.heap[U]?=aO (aM #[ah pp n4 c4,ah vp vk ve] 26)/\((∀ b,gV B L2 b->gV B L b\/W.heap.size<=b)/\L2.ex=fun b=>b=W.heap.size+1\/L.ex b)):=⟨HO.out,HU.1,HH.1.2⟩
 clear HF HU hz HH;go_wp2_with (first
  | (go_at_call 34;refine vh.mono ?_;clear vh;rintro r w6 ⟨rfl,G9⟩;have HP6:ax _:=G9;have h6:=(G9.keep.block U (aX.1 HC.2.1).1 (GY.other HC.2.1 (by decide) (by decide) (by decide))).trans HC.2.1;have v0:w6.cell? U=aO (ah pp n4 c4):=(by simp[World.cell?,h6]);have v1:w6.cell? ⟨U,1,aN⟩=aO (ah vp vk ve):=(by simp[World.cell?,h6]);have XK:ax _:=HC.1.step ⟨GY.out,HC.2.2⟩ G9;clear G9 h6)
  | (go_at_call 13;refine(kQ _ HP6.out).mono ?_;clear kQ;rintro r w7 ⟨rfl,L3,pK,Qr⟩;have XL:ax _:=XK.step ⟨pK.1,fun b hb=>(pK.2.1 b hb).elim (fun e=>HC.2.2.1 b e) (fun e=>.inr (bc HC.1.keep.size e)),pK.2.2.trans HC.2.2.2⟩ Qr;clear pK Qr)
  | (go_at_call 27;refine(fP _ _).mono ?_;rintro r wb ⟨rfl,fR⟩;have HB:ax _:=XL.pure fR;obtain⟨⟨b0,b1,b2,b3⟩,z0,z1,z2,z3⟩:=cK HB.gz;clear fR))
 exact ba (v:=ar #[aa ag 0,aa ag 0,ai ⟨#[]⟩,ah aN 0 0]) (by simp[results,results14,go_sem,b0,b1,b2,b3]) rfl (by rw[HG.out];exact HB.iT 0 0 ⟨#[]⟩)
end
section
variable {aS:aE}{W:aw}{B:aE}{s:Sy}{L:ja}
theorem JW(h:cW aS W B s L)(cf cn cm:aF)(cp ct cx:aA)(ca:Bool)(ow:aE)(how:ow<4)(tG:cp.size<=1048576)(h0:(bH s.all).1=0)(iL:s.bh.length<1000000):ay aP 14 #[aj (aO B),ar #[aa ag 8,aa ag ow,aa ag cf,aa ag cn,aa ag cm,ai cp,ai ct,ai cx,aq ca]] W (ic aS B (if s.pE 8 cp=0 then(s.iZ (fU (s.kH cp)) s.bh.length).di (ec s.up (bG s.cq).2 (fU (s.kH cp))) s.cq else s) (if s.pE 8 cp=0 then gz 0 ⟨#[]⟩else km (s.pE 8 cp)) L W):=by
 have HS:ax (gL aS B s L W ⟨8,ow,cf,cn,cm,cp,ct,cx,ca⟩ _):=gL.start h _;have iG:∀ w,gL aS B s L W ⟨8,ow,cf,cn,cm,cp,ct,cx,ca⟩ w->ay aP 30 #[aj (aO B),ai cp,aq aH] w (jk (dV s.bA aH cp).1 (dV s.bA aH cp).2 w):=fun w hw=>by obtain⟨L1,h1,_⟩:=hw.ex;exact lU h1 cp tG _
 generalize hR:ic aS B _ _ L W=R at *;have HR:ax (_=R):=hR;have qu:ax ((dV s.bA aH cp).2.length<=80):=jI _ _ _;unfold Sy.pE Sy.kH at HR;generalize dV s.bA aH cp.data.toList=Q at iG qu HR;obtain⟨er,q⟩:=Q;simp only at iG qu HR;clear hR h;have g1:decide ((ow:aF)<0)=aH:=bD (by omega);have g2:decide (3<(ow:aF))=aH:=bD (by omega);go_enter func14,ntmps14;go_upto_region 0 with fail
 go_cut [3,4]from 3 to 4 (fun s3 s4 w=>s3=aj (aO W)/\s4=aj (aO ⟨↑W+1,0,aN⟩)/\ax (gL aS B s L W ⟨8,ow,cf,cn,cm,cp,ct,cx,ca⟩ w))
 case first=>
  go_wp2_with fail;go_meet
  case rel=>exact⟨rfl,rfl,HS.out⟩
 obtain⟨rfl,rfl,HO⟩:=hcut;clear HS;obtain⟨⟨k0,k1,k2,k3,k4,k5,k6,k7,k8⟩,kl⟩:=HO.cells;go_upto_region 16 with fail
 go_cut [5,6]from 19 to 69 (fun s5 s6 w=>∃ p:aA,s5=ai p/\s6=aa ag er/\ax (p.data.toList=q/\gL aS B s L W ⟨8,ow,cf,cn,cm,cp,ct,cx,ca⟩ w))
 case first=>
  go_wp2_with (go_at_call 30;refine(iG _ HO.out).mono ?_;rintro r w3 ⟨p,rfl,hp,hB⟩;have HP:ax _:=fB hp (HO.pure hB);clear hp hB);go_meet
  case rel=>exact⟨p,rfl,rfl,HP.out⟩
 obtain⟨p,rfl,rfl,HP⟩:=hcut;clear HO k0 k1 k2 k3 k4 k5 k6 k7 k8 kl iG g1 g2;have HO:ax _:=HP.2;obtain⟨⟨k0,k1,k2,k3,k4,k5,k6,k7,k8⟩,kl⟩:=HO.cells;by_cases ni:er=0;rotate_left
 ·have C3:(er != 0)=aI:=by simpa using ni
  go_wp2_with (go_at_call 27;refine(fP _ _).mono ?_;rintro r wb ⟨rfl,fR⟩;have HB:ax _:=HO.pure fR;obtain⟨⟨b0,b1,b2,b3⟩,z0,z1,z2,z3⟩:=cK HB.gz;clear fR);exact ba (v:=ar #[aa ag er,aa ag 0,ai ⟨#[]⟩,ah aN 0 0]) (by simp[results,results14,go_sem,b0,b1,b2,b3]) rfl (by rw[<- HR.out,aY ni,aW ni,aW ni];exact HB.iT er 0 ⟨#[]⟩)
 subst ni;obtain⟨L1,h1,lj⟩:=HO.ex;obtain⟨_,_,c2,_⟩:=h1.cells;obtain⟨sn,ik⟩:∃ n,n=s.bA.length:=⟨_,rfl⟩
 rw[<- ik]at c2;have gI:=Ed s.bA p L1.ps sn L1.sc wc ik h1.data.now.bA (cY s.all) ((bW s.bA p).getD cR) (bW s.bA p).isSome rfl rfl;rw[HP.1]at gI;generalize (bW s.bA q).getD cR=e at gI HR;generalize (bW s.bA q).isSome=b at gI HR;obtain⟨ep,ek,et,eo⟩:=e;simp only at gI HR;have lB:=h1.lt;clear ik;go_upto_region 19 with fail
 go_cut [7,8]from 70 to 82 (fun s7 s8 w=>∃ E:aE,s7=aj (aO E)/\s8=aq b/\w.cell? ⟨E,1,aN⟩=aO (aa ag ek)/\w.cell? ⟨E,2,aN⟩=aO (ai et)/\ax (gL aS B s L W ⟨8,ow,cf,cn,cm,cp,ct,cx,ca⟩ w))
 case first=>
  go_wp2_with (go_at_call 31;refine gI.mono ?_;rintro r w4 ⟨rfl,eO⟩;have HB:ax _:=HO.pure eO;clear eO);go_meet
  case rel=>exact⟨_,rfl,rfl,by simp,by simp,HB.pure ((Grown.refl _).alloc _).below⟩
 clear gI c2 k0 k1 k2 k3 k4 k5 k6 k7 k8 kl HO h1 lB;obtain⟨E,rfl,rfl,E1,E2,HO⟩:=hcut;obtain⟨⟨k0,k1,k2,k3,k4,k5,k6,k7,k8⟩,kl⟩:=HO.cells;cases b
 ·go_wp2_with (go_at_call 27;refine(fP _ _).mono ?_;rintro r wb ⟨rfl,fR⟩;have HB:ax _:=HO.pure fR;obtain⟨⟨b0,b1,b2,b3⟩,z0,z1,z2,z3⟩:=cK HB.gz;clear fR)
  exact ba (v:=ar #[aa ag 6,aa ag 0,ai ⟨#[]⟩,ah aN 0 0]) (by simp[results,results14,go_sem,b0,b1,b2,b3]) rfl (by rw[<- HR.out];simp[];exact HB.iT 6 0 ⟨#[]⟩)
 cases hk:(ek == 2);rotate_left
 ·have j4:ek=2:=by simpa using hk
  have HK:ax (ek=2):=j4;clear j4;go_wp2_with (go_at_call 27;refine(fP _ _).mono ?_;rintro r wb ⟨rfl,fR⟩;have HB:ax _:=HO.pure fR;obtain⟨⟨b0,b1,b2,b3⟩,z0,z1,z2,z3⟩:=cK HB.gz;clear fR);exact ba (v:=ar #[aa ag 9,aa ag 0,ai ⟨#[]⟩,ah aN 0 0]) (by simp[results,results14,go_sem,b0,b1,b2,b3]) rfl (by rw[<- HR.out];simp[HK.out];exact HB.iT 9 0 ⟨#[]⟩)
 have HK:ax (¬ ek=2):=by show ¬ ek=2;simpa using hk
 by_cases hq:q=[]
 ·have td:p=⟨#[]⟩:=fV (by rw[HP.1,hq])
  subst td;have HQ:ax (q=[]):=hq;clear hq;go_wp2_with (go_at_call 27;refine(fP _ _).mono ?_;rintro r wb ⟨rfl,fR⟩;have HB:ax _:=HO.pure fR;obtain⟨⟨b0,b1,b2,b3⟩,z0,z1,z2,z3⟩:=cK HB.gz;clear fR);exact ba (v:=ar #[aa ag 8,aa ag 0,ai ⟨#[]⟩,ah aN 0 0]) (by simp[results,results14,go_sem,b0,b1,b2,b3]) rfl (by rw[<- HR.out];simp[HK.out,HQ.out];exact HB.iT 8 0 ⟨#[]⟩)
 have BU:p.toList.isEmpty=aH:=by rw[bq,HP.1];simpa using hq
 obtain⟨L2,HL⟩:=HO.ex;have h1:=HL.1;obtain⟨c0,c1,_⟩:=h1.cells;obtain⟨yn,ku⟩:∃ n,n=L2.y.es.length:=⟨_,rfl⟩
 obtain⟨ln,ka⟩:∃ n,n=L2.lo.length:=⟨_,rfl⟩
 have Ak:p.size<=80:=by have:=qu.out;rw[<- ix,HP.1];exact this
 have rh:=fun Y (hY:au wc.heap.size wc Y)=>TG (W:=Y) (pl:=L2.pl) (cl:=L2.cl) p ku ka ((h1.data.now.un).bB hY) (by rw[h1.up,h1.low];exact h0) (by omega)
 rw[h1.up,h1.low]at rh;have iM:=fun e=>(wV (up:=s.up) (cq:=s.cq) (q:=p) e).1
 have HE:∀ ae,dg (bH (s.up::s.cq)).1 (eP (cO (s.up::s.cq)) p) (ec s.up (bG s.cq).2 p).length=ae->R=ic aS B (if ae=0 then(s.iZ p s.bh.length).di (ec s.up (bG s.cq).2 p) s.cq else s) ⟨ae,0,⟨#[]⟩,[]⟩ L W:=fun ae e=>by
  have rb:fU q=p:=fV (by rw[HP.1];simp[fU]);rw[<- HR.out,rb];have e':dg (bH s.all).1 (eP s.bA q) (ec s.up (bG s.cq).2 p).length=ae:=by rw[<- HP.1];exact e
  simp[HK.out,hq,e'];by_cases hz:ae=0
  ·simp[hz];rfl
  ·simp[hz];rfl
 rw[<- ku]at c0;rw[<- ka]at c1;have HH:ax ((cW aS wc B s L2/\(∀ b,gV B L2 b->gV B L b\/W.heap.size<=b)/\L2.ex=fun b=>b=W.heap.size+1\/L.ex b)/\ln=L2.lo.length):=⟨HL,ka⟩
 have lB:=h1.lt;generalize (ec s.up (bG s.cq).2 p)=up at rh iM HE;generalize dg (bH (s.up::s.cq)).1 (eP (cO (s.up::s.cq)) p) up.length=ae at rh iM HE;have HE:=HE ae rfl;have HF:ax (R=ic aS B (if ae=0 then(s.iZ p s.bh.length).di up s.cq else s) ⟨ae,0,⟨#[]⟩,[]⟩ L W/\(ae=0->(bH (up::s.cq)).1=0)):=⟨HE,iM⟩
 clear HL h1 ku ka HE HR iM;go_upto_region 39 with fail
 go_cut [10,11]from 113 to 145 (fun s10 s11 w=>∃ (U:aE) (pp:aC aJ) (n4 c4:aE) (vp:aC aJ) (vk ve:aE),s10=aj (aO U)/\s11=aa ag ae/\w.cell? U=aO (ah pp n4 c4)/\w.cell? ⟨U,1,aN⟩=aO (ah vp vk ve)/\ax (w.heap[U]?=aO (aM #[ah pp n4 c4,ah vp vk ve] 26)/\au wc wc w/\(ae=0->n4=up.length/\vp=L2.pl/\vk=L2.lo.length/\ve=L2.cl/\bI w pp up/\n4<=c4/\(pp=aN->c4=0)/\∀ b off sp,pp=aO ⟨b,off,sp⟩->wc.heap.size<=b)))
 case first=>
  go_wp2_with (go_at_call 33;refine(rh _ (aR _ _)).mono ?_;clear rh;rintro r w4 ⟨pp,n4,c4,vp,vk,ve,rfl,eO,H4⟩;have kT:ax (au wc wc w4):=eO;clear eO);go_meet
  case rel=>exact⟨_,pp,n4,c4,vp,vk,ve,rfl,rfl,by simp,by simp,heap_alloc_last _ _,kT.alloc kT.size _,fun e=>by obtain⟨a1,a2,a3,a4,a5,a6,a7,a8⟩:=H4.out e;exact⟨a1,a2,a3.trans HH.2,a4,a5.bB ((Grown.refl _).alloc _).below,a6,a7,a8⟩⟩
 obtain⟨U,pp,n4,c4,vp,vk,ve,rfl,rfl,u0,u1,HU⟩:=hcut;replace HO:=show ax _ from HO.pure HU.2.1
 cases hz:(ae != 0);rotate_left
 ·have HZ:ax (¬ ae=0):=by show ¬ ae=0;simpa using hz
  go_wp2_with (go_at_call 27;refine(fP _ _).mono ?_;rintro r wb ⟨rfl,fR⟩;have HB:ax _:=HO.pure fR;obtain⟨⟨b0,b1,b2,b3⟩,z0,z1,z2,z3⟩:=cK HB.gz;clear fR);exact ba (v:=ar #[aa ag ae,aa ag 0,ai ⟨#[]⟩,ah aN 0 0]) (by simp[results,results14,go_sem,b0,b1,b2,b3]) rfl (by rw[HF.1,aW HZ.out];exact HB.iT ae 0 ⟨#[]⟩)
 have ou:ae=0:=by simpa using hz
 subst ou;have GY:ax (cW aS wc B s L2):=HH.1.1.bB HU.2.1;have vh:=yv GY.out p iL;have kQ:=fun w' (hP:iU aS B (s.iZ p s.bh.length) L2 wc w')=>yw HH.1.1 HU.2.1 (by obtain⟨a1,a2,a3,a4,a5,a6,a7,a8⟩:=HU.2.2 rfl;exact⟨a1,a2,a3,a4,a5,a6,a7,.inl a8⟩) (HF.2 rfl) hP rfl
 have HG:ax (R=ic aS B ((s.iZ p s.bh.length).di up s.cq) ⟨0,0,⟨#[]⟩,[]⟩ L W):=by have:=HF.1;rw[aY rfl]at this;exact this
 have HC:ax (gL aS B s L W ⟨8,ow,cf,cn,cm,cp,ct,cx,ca⟩ wc/\wc.heap[U]?=aO (aM #[ah pp n4 c4,ah vp vk ve] 26)/\((∀ b,gV B L2 b->gV B L b\/W.heap.size<=b)/\L2.ex=fun b=>b=W.heap.size+1\/L.ex b)):=⟨HO.out,HU.1,HH.1.2⟩
 clear HF HU hz HH;go_wp2_with (first
  | (go_at_call 34;refine vh.mono ?_;clear vh;rintro r w6 ⟨rfl,G9⟩;have HP6:ax _:=G9;have h6:=(G9.keep.block U (aX.1 HC.2.1).1 (GY.other HC.2.1 (by decide) (by decide) (by decide))).trans HC.2.1;have v0:w6.cell? U=aO (ah pp n4 c4):=(by simp[World.cell?,h6]);have v1:w6.cell? ⟨U,1,aN⟩=aO (ah vp vk ve):=(by simp[World.cell?,h6]);have XK:ax _:=HC.1.step ⟨GY.out,HC.2.2⟩ G9;clear G9 h6)
  | (go_at_call 13;refine(kQ _ HP6.out).mono ?_;clear kQ;rintro r w7 ⟨rfl,L3,pK,Qr⟩;have XL:ax _:=XK.step ⟨pK.1,fun b hb=>(pK.2.1 b hb).elim (fun e=>HC.2.2.1 b e) (fun e=>.inr (bc HC.1.keep.size e)),pK.2.2.trans HC.2.2.2⟩ Qr;clear pK Qr)
  | (go_at_call 27;refine(fP _ _).mono ?_;rintro r wb ⟨rfl,fR⟩;have HB:ax _:=XL.pure fR;obtain⟨⟨b0,b1,b2,b3⟩,z0,z1,z2,z3⟩:=cK HB.gz;clear fR))
 exact ba (v:=ar #[aa ag 0,aa ag 0,ai ⟨#[]⟩,ah aN 0 0]) (by simp[results,results14,go_sem,b0,b1,b2,b3]) rfl (by rw[HG.out];exact HB.iT 0 0 ⟨#[]⟩)
end
section
variable {aS:aE}{W:aw}{B:aE}{s:Sy}{L:ja}
def PM.Sy.GI(s:Sy)(a b:aA)(up:aB bP):Sy:=((if a.data.toList=b.data.toList then s else s.iZ b s.bh.length).XY a b).di up s.cq
theorem T5(h:cW aS W B s L)(cf cn cm:aF)(cp ct cx:aA)(ca:Bool)(ow:aE)(how:ow<4)(tG:cp.size<=1048576)(h0:(bH s.all).1=0)(iL:s.bh.length<1000000)(Nq:ct.size<=1048576)(rf:∀ f∈s.bh,f.bm.size<=1048576):ay aP 14 #[aj (aO B),ar #[aa ag 9,aa ag ow,aa ag cf,aa ag cn,aa ag cm,ai cp,ai ct,ai cx,aq ca]] W (ic aS B (if s.n9 cp ct=0 then s.GI (fU (s.kH cp)) (fU (s.kH ct)) (s.nr (fU (s.kH cp)) (fU (s.kH ct)))else s) (if s.n9 cp ct=0 then gz 0 ⟨#[]⟩else km (s.n9 cp ct)) L W):=by
 have HS:ax (gL aS B s L W ⟨9,ow,cf,cn,cm,cp,ct,cx,ca⟩ _):=gL.start h _;have iG:∀ w,gL aS B s L W ⟨9,ow,cf,cn,cm,cp,ct,cx,ca⟩ w->ay aP 30 #[aj (aO B),ai cp,aq aH] w (jk (dV s.bA aH cp).1 (dV s.bA aH cp).2 w):=fun w hw=>by obtain⟨L1,h1,_⟩:=hw.ex;exact lU h1 cp tG _
 have Gb:∀ w,gL aS B s L W ⟨9,ow,cf,cn,cm,cp,ct,cx,ca⟩ w->ay aP 30 #[aj (aO B),ai ct,aq aH] w (jk (dV s.bA aH ct).1 (dV s.bA aH ct).2 w):=fun w hw=>by obtain⟨L1,h1,_⟩:=hw.ex;exact lU h1 ct Nq _
 generalize hR:ic aS B _ _ L W=R at *;have HR:ax (_=R):=hR;have qu:ax ((dV s.bA aH cp).2.length<=80):=jI _ _ _;unfold Sy.n9 Sy.kH at HR;generalize dV s.bA aH cp.data.toList=Q at iG qu HR;obtain⟨er,q⟩:=Q;simp only at iG qu HR;clear hR h;have g1:decide ((ow:aF)<0)=aH:=bD (by omega);have g2:decide (3<(ow:aF))=aH:=bD (by omega);go_enter func14,ntmps14;go_upto_region 0 with fail
 go_cut [3,4]from 3 to 4 (fun s3 s4 w=>s3=aj (aO W)/\s4=aj (aO ⟨↑W+1,0,aN⟩)/\ax (gL aS B s L W ⟨9,ow,cf,cn,cm,cp,ct,cx,ca⟩ w))
 case first=>
  go_wp2_with fail;go_meet
  case rel=>exact⟨rfl,rfl,HS.out⟩
 obtain⟨rfl,rfl,HO⟩:=hcut;clear HS;obtain⟨⟨k0,k1,k2,k3,k4,k5,k6,k7,k8⟩,kl⟩:=HO.cells;go_upto_region 16 with fail
 go_cut [5,6]from 19 to 69 (fun s5 s6 w=>∃ p:aA,s5=ai p/\s6=aa ag er/\ax (p.data.toList=q/\gL aS B s L W ⟨9,ow,cf,cn,cm,cp,ct,cx,ca⟩ w))
 case first=>
  go_wp2_with (go_at_call 30;refine(iG _ HO.out).mono ?_;rintro r w3 ⟨p,rfl,hp,hB⟩;have HP:ax _:=fB hp (HO.pure hB);clear hp hB);go_meet
  case rel=>exact⟨p,rfl,rfl,HP.out⟩
 obtain⟨p,rfl,rfl,HP⟩:=hcut;clear HO k0 k1 k2 k3 k4 k5 k6 k7 k8 kl iG g1 g2;have HO:ax _:=HP.2;obtain⟨⟨k0,k1,k2,k3,k4,k5,k6,k7,k8⟩,kl⟩:=HO.cells;by_cases ni:er=0;rotate_left
 ·have C3:(er != 0)=aI:=by simpa using ni
  go_wp2_with (go_at_call 27;refine(fP _ _).mono ?_;rintro r wb ⟨rfl,fR⟩;have HB:ax _:=HO.pure fR;obtain⟨⟨b0,b1,b2,b3⟩,z0,z1,z2,z3⟩:=cK HB.gz;clear fR);exact ba (v:=ar #[aa ag er,aa ag 0,ai ⟨#[]⟩,ah aN 0 0]) (by simp[results,results14,go_sem,b0,b1,b2,b3]) rfl (by rw[<- HR.out,aY ni,aW ni,aW ni];exact HB.iT er 0 ⟨#[]⟩)
 subst ni;obtain⟨L1,h1,lj⟩:=HO.ex;obtain⟨_,_,c2,_⟩:=h1.cells;obtain⟨sn,ik⟩:∃ n,n=s.bA.length:=⟨_,rfl⟩
 rw[<- ik]at c2;have gI:=Ed s.bA p L1.ps sn L1.sc wc ik h1.data.now.bA (cY s.all) ((bW s.bA p).getD cR) (bW s.bA p).isSome rfl rfl;rw[HP.1]at gI;generalize (bW s.bA q).getD cR=e at gI HR;generalize (bW s.bA q).isSome=b at gI HR;obtain⟨ep,ek,et,eo⟩:=e;simp only at gI HR;have lB:=h1.lt;clear ik;go_upto_region 19 with fail
 go_cut [7,8]from 70 to 82 (fun s7 s8 w=>∃ E:aE,s7=aj (aO E)/\s8=aq b/\w.cell? ⟨E,1,aN⟩=aO (aa ag ek)/\w.cell? ⟨E,2,aN⟩=aO (ai et)/\ax (gL aS B s L W ⟨9,ow,cf,cn,cm,cp,ct,cx,ca⟩ w))
 case first=>
  go_wp2_with (go_at_call 31;refine gI.mono ?_;rintro r w4 ⟨rfl,eO⟩;have HB:ax _:=HO.pure eO;clear eO);go_meet
  case rel=>exact⟨_,rfl,rfl,by simp,by simp,HB.pure ((Grown.refl _).alloc _).below⟩
 clear gI c2 k0 k1 k2 k3 k4 k5 k6 k7 k8 kl HO h1 lB;obtain⟨E,rfl,rfl,E1,E2,HO⟩:=hcut;obtain⟨⟨k0,k1,k2,k3,k4,k5,k6,k7,k8⟩,kl⟩:=HO.cells;have XN:ax ((dV s.bA aH ct).2.length<=80):=jI _ _ _;generalize dV s.bA aH ct.data.toList=Q2 at Gb XN HR;obtain⟨er2,q2⟩:=Q2;simp only at Gb XN HR;go_upto_region 45 with fail
 go_cut [12,13]from 83 to 166 (fun s12 s13 w=>∃ t:aA,s12=ai t/\s13=aa ag er2/\ax (t.data.toList=q2/\gL aS B s L W ⟨9,ow,cf,cn,cm,cp,ct,cx,ca⟩ w))
 case first=>
  go_wp2_with (go_at_call 30;refine(Gb _ HO.out).mono ?_;rintro r w3 ⟨t,rfl,ht,hB⟩;have HT:ax _:=fB ht (HO.pure hB);clear ht hB);go_meet
  case rel=>exact⟨t,rfl,rfl,HT.out⟩
 obtain⟨t,rfl,rfl,HT⟩:=hcut;clear HO k0 k1 k2 k3 k4 k5 k6 k7 k8 kl Gb E1 E2;have HO:ax _:=HT.2;obtain⟨⟨k0,k1,k2,k3,k4,k5,k6,k7,k8⟩,kl⟩:=HO.cells;by_cases C3:er2=0;rotate_left
 ·have akB:(er2 != 0)=aI:=by simpa using C3
  go_wp2_with (go_at_call 27;refine(fP _ _).mono ?_;rintro r wb ⟨rfl,fR⟩;have HB:ax _:=HO.pure fR;obtain⟨⟨b0,b1,b2,b3⟩,z0,z1,z2,z3⟩:=cK HB.gz;clear fR);exact ba (v:=ar #[aa ag er2,aa ag 0,ai ⟨#[]⟩,ah aN 0 0]) (by simp[results,results14,go_sem,b0,b1,b2,b3]) rfl (by rw[<- HR.out];simp[C3];exact HB.iT er2 0 ⟨#[]⟩)
 subst C3;by_cases hq:q=[]
 ·have td:p=⟨#[]⟩:=fV (by rw[HP.1,hq])
  subst td;have HQ:ax (q=[]):=hq;clear hq;go_wp2_with (go_at_call 27;refine(fP _ _).mono ?_;rintro r wb ⟨rfl,fR⟩;have HB:ax _:=HO.pure fR;obtain⟨⟨b0,b1,b2,b3⟩,z0,z1,z2,z3⟩:=cK HB.gz;clear fR);exact ba (v:=ar #[aa ag 8,aa ag 0,ai ⟨#[]⟩,ah aN 0 0]) (by simp[results,results14,go_sem,b0,b1,b2,b3]) rfl (by rw[<- HR.out];simp[HQ.out];exact HB.iT 8 0 ⟨#[]⟩)
 have BU:p.toList.isEmpty=aH:=by rw[bq,HP.1];simpa using hq
 by_cases UC:q2=[]
 ·have td:t=⟨#[]⟩:=fV (by rw[HT.1,UC])
  subst td;have HQ:ax (q2=[]):=UC;clear UC;go_wp2_with (go_at_call 27;refine(fP _ _).mono ?_;rintro r wb ⟨rfl,fR⟩;have HB:ax _:=HO.pure fR;obtain⟨⟨b0,b1,b2,b3⟩,z0,z1,z2,z3⟩:=cK HB.gz;clear fR);exact ba (v:=ar #[aa ag 8,aa ag 0,ai ⟨#[]⟩,ah aN 0 0]) (by simp[results,results14,go_sem,b0,b1,b2,b3]) rfl (by rw[<- HR.out];simp[HQ.out];exact HB.iT 8 0 ⟨#[]⟩)
 have Xh:t.toList.isEmpty=aH:=by rw[bq,HT.1];simpa using UC
 obtain⟨L2,HL⟩:=HO.ex;have h1:=HL.1;obtain⟨c0,c1,_⟩:=h1.cells;obtain⟨yn,ku⟩:∃ n,n=L2.y.es.length:=⟨_,rfl⟩
 obtain⟨ln,ka⟩:∃ n,n=L2.lo.length:=⟨_,rfl⟩
 have Ak:p.size<=80:=by have:=qu.out;rw[<- ix,HP.1];exact this
 have Aq:t.size<=80:=by have:=XN.out;rw[<- ix,HT.1];exact this
 have rh:=Wg (W:=wc) (pl:=L2.pl) (cl:=L2.cl) p t ku ka h1.data.now.un (by rw[h1.up,h1.low];exact h0) (by omega) (by omega);rw[h1.up,h1.low]at rh;have rh:ay aP _ _ _ (XT L2.y (dg (bH s.all).1 (ez s.bA p t) (s.nr p t).length) (s.nr p t) _ _ _ _):=rh;have iM:=fun e=>(AD (s:=s) (fr:=p) (dst:=t) e).1
 have HE:∀ ae,dg (bH s.all).1 (ez s.bA p t) (s.nr p t).length=ae->R=ic aS B (if ae=0 then s.GI p t (s.nr p t)else s) ⟨ae,0,⟨#[]⟩,[]⟩ L W:=fun ae e=>by
  have rb:fU q=p:=fV (by rw[HP.1];simp[fU]);have htq:fU q2=t:=fV (by rw[HT.1];simp[fU]);rw[<- HR.out,rb,htq];simp[hq,UC,e];by_cases hz:ae=0
  ·simp[hz];rfl
  ·simp[hz];rfl
 rw[<- ku]at c0;rw[<- ka]at c1;have HH:ax ((cW aS wc B s L2/\(∀ b,gV B L2 b->gV B L b\/W.heap.size<=b)/\L2.ex=fun b=>b=W.heap.size+1\/L.ex b)/\ln=L2.lo.length):=⟨HL,ka⟩
 have lB:=h1.lt;generalize (s.nr p t)=up at rh iM HE;generalize dg (bH s.all).1 (ez s.bA p t) up.length=ae at rh iM HE;have HE:=HE ae rfl;have HF:ax (R=ic aS B (if ae=0 then s.GI p t up else s) ⟨ae,0,⟨#[]⟩,[]⟩ L W/\(ae=0->(bH (up::s.cq)).1=0)):=⟨HE,iM⟩
 clear HL h1 ku ka HE HR iM hq UC;go_upto_region 50 with fail
 go_cut [14,13]from 160 to 187 (fun Zp s13 w=>∃ (U:aE) (pp:aC aJ) (n4 c4:aE) (vp:aC aJ) (vk ve:aE),Zp=aj (aO U)/\s13=aa ag ae/\w.cell? U=aO (ah pp n4 c4)/\w.cell? ⟨U,1,aN⟩=aO (ah vp vk ve)/\ax (w.heap[U]?=aO (aM #[ah pp n4 c4,ah vp vk ve] 26)/\au wc wc w/\(ae=0->n4=up.length/\vp=L2.pl/\vk=L2.lo.length/\ve=L2.cl/\bI w pp up/\n4<=c4/\(pp=aN->c4=0)/\((∀ b off sp,pp=aO ⟨b,off,sp⟩->wc.heap.size<=b)\/pp=L2.y.ad/\c4=L2.y.cap/\up=L2.y.es))))
 case first=>
  go_wp2_with (go_at_call 35;refine rh.mono ?_;clear rh;rintro r w4 ⟨pp,n4,c4,vp,vk,ve,rfl,eO,H4⟩;have kT:ax (au wc wc w4):=eO;clear eO);go_meet
  case rel=>exact⟨_,pp,n4,c4,vp,vk,ve,rfl,rfl,by simp,by simp,heap_alloc_last _ _,kT.alloc kT.size _,fun e=>by obtain⟨a1,a2,a3,a4,a5,a6,a7,a8⟩:=H4.out e;exact⟨a1,a2,a3.trans HH.2,a4,a5.bB ((Grown.refl _).alloc _).below,a6,a7,a8⟩⟩
 obtain⟨U,pp,n4,c4,vp,vk,ve,rfl,rfl,u0,u1,HU⟩:=hcut;replace HO:=show ax _ from HO.pure HU.2.1
 cases hz:(ae != 0);rotate_left
 ·have HZ:ax (¬ ae=0):=by show ¬ ae=0;simpa using hz
  go_wp2_with (go_at_call 27;refine(fP _ _).mono ?_;rintro r wb ⟨rfl,fR⟩;have HB:ax _:=HO.pure fR;obtain⟨⟨b0,b1,b2,b3⟩,z0,z1,z2,z3⟩:=cK HB.gz;clear fR);exact ba (v:=ar #[aa ag ae,aa ag 0,ai ⟨#[]⟩,ah aN 0 0]) (by simp[results,results14,go_sem,b0,b1,b2,b3]) rfl (by rw[HF.1,aW HZ.out];exact HB.iT ae 0 ⟨#[]⟩)
 have ou:ae=0:=by simpa using hz
 subst ou;have GY:ax (cW aS wc B s L2):=HH.1.1.bB HU.2.1;have vh:=yv GY.out t iL;have uY:ax (∀ s' w',iU aS B s' L2 wc w'->s'.cq=s.cq->ay aP 13 #[aj (aO B),ar #[ah pp n4 c4,ah vp vk ve],aa ag 0] w' fun r W'=>r=.returned (aa ag 0)/\∃ L2',(cW aS w' B s' L2'/\(∀ b,gV B L2' b->gV B L2 b\/wc.heap.size<=b)/\L2'.ex=L2.ex)/\iU aS B (s'.di up s.cq) L2' w' W'):=fun s' w' hP II=>yw HH.1.1 HU.2.1 (HU.2.2 rfl) (HF.2 rfl) hP II
 have HG:ax (R=ic aS B (s.GI p t up) ⟨0,0,⟨#[]⟩,[]⟩ L W):=by have:=HF.1;rw[aY rfl]at this;exact this
 have HC:ax (gL aS B s L W ⟨9,ow,cf,cn,cm,cp,ct,cx,ca⟩ wc/\wc.heap[U]?=aO (aM #[ah pp n4 c4,ah vp vk ve] 26)/\((∀ b,gV B L2 b->gV B L b\/W.heap.size<=b)/\L2.ex=fun b=>b=W.heap.size+1\/L.ex b)):=⟨HO.out,HU.1,HH.1.2⟩
 clear HF HU hz HH HO u0 u1 k0 k1 k2 k3 k4 k5 k6 k7 k8 kl c0 c1;go_upto_region 53 with fail
 go_cut [194]from 188 to 193 (fun x w=>x=aq (!decide (q=q2))/\w=wc)
 case first=>
  by_cases kG:q=q2
  ·obtain rfl:p=t:=fV (by rw[HP.1,HT.1,kG])
   go_wp2_with fail;go_meet
   case rel=>exact⟨by simp[kG],rfl⟩
  ·have hne:(p.toList == t.toList)=aH:=by rw[bq,bq,HP.1,HT.1];simpa using kG
   go_wp2_with fail;go_meet
   case rel=>exact⟨by simp[kG],rfl⟩
 obtain⟨rfl,rfl⟩:=hcut
 rename aw=>w0
 go_upto_if 194 with fail
 go_cut []from 188 to 197 (fun w=>ax (iU aS B (if q=q2 then s else s.iZ t s.bh.length) L2 w0 w))
 case first=>
  cases hd:(!decide (q=q2))
  ·have HPT:ax (q=q2):=by show q=q2;simpa using hd
   go_wp2_with fail;go_meet
   case rel=>rw[aY HPT.out];exact iU.refl GY.out (aR _ _)
  ·have HPT:ax (¬ q=q2):=by show ¬ q=q2;simpa using hd
   go_wp2_with (go_at_call 34;refine vh.mono ?_;clear vh;rintro r w6 ⟨rfl,G9⟩;have HP6:ax _:=G9;clear G9);go_meet
   case rel=>rw[aW HPT.out];exact HP6.out
 have tF:ax (s.GI p t up=((if q=q2 then s else s.iZ t s.bh.length).XY p t).di up s.cq):=by show _=_;unfold Sy.GI;rw[HP.1,HT.1]
 have QO:ax ((if q=q2 then s else s.iZ t s.bh.length).cq=s.cq/\(if q=q2 then s else s.iZ t s.bh.length).bh.length<1000000/\∀ f∈(if q=q2 then s else s.iZ t s.bh.length).bh,f.bm.size<=1048576):=by
  by_cases kG:q=q2
  ·rw[aY kG];exact⟨rfl,iL,rf⟩
  ·rw[aW kG]
   refine⟨rfl,by simpa[Sy.iZ]using iL,fun f hf=>?_⟩;obtain⟨i,hi,rfl⟩:=List.mem_mapIdx.1 (show f∈s.bh.mapIdx _ from hf);show(if i<s.bh.length then s.oG t s.bh[i]else s.bh[i]).bm.size<=_;rw[aY hi];unfold Sy.oG;split
   ·show(0:aE)<=_;omega
   ·exact rf _ (jb _)
 have ZD:ax (iU aS B (if q=q2 then s else s.iZ t s.bh.length) L2 w0 wc):=hcut.out;generalize (if q=q2 then s else s.iZ t s.bh.length)=s1 at ZD tF QO;clear hcut vh iL rf;obtain⟨L3,h3,pK,D3⟩:=ZD.ex;obtain⟨n,hn⟩:=ee s1.bh.length
 obtain⟨po,co,hv⟩:∃ po co,L3.vo=ah po n co:=by
  rcases h3.objs.2 with⟨e,e0⟩|⟨g,c,eI,e,_⟩
  ·exact⟨aN,0,by rw[e,hn,e0]⟩
  ·exact⟨_,_,by rw[e,hn]⟩
 have c3:=h3.cells.2.2.2.1;rw[hv]at c3;have lB3:=h3.lt;have HN:ax (n=s1.bh.length/\L3.vo=ah po n co):=⟨hn,hv⟩
 have hn6:n<1000000:=by rw[hn];exact QO.2.1
 have GZ:ax (∃ L4,cW aS wc B (s1.np (jM p t) 0) L4/\L4.vo=L3.vo/\((∀ b,gV B L4 b->gV B L2 b\/w0.heap.size<=b)/\L4.ex=L2.ex)/\au aS w0 wc/\cA (gV B L2) w0 wc):=⟨L3,by rw[SX];exact h3,rfl,⟨pK,D3⟩,ZD.low,ZD.keep⟩
 clear h3 pK D3 hn hv;go_wp2_with fail;go_loopg [203] n (fun gg agR wr=>∃ k:aE,k<=n/\n-k<=gg/\agR=aa ag k/\ax (∃ L4,cW aS wr B (s1.np (jM p t) k) L4/\L4.vo=L3.vo/\((∀ b,gV B L4 b->gV B L2 b\/w0.heap.size<=b)/\L4.ex=L2.ex)/\au aS w0 wr/\cA (gV B L2) w0 wr))
 case atStart=>exact⟨0,bF _,by omega,rfl,GZ.out⟩
 case round=>
  obtain⟨k,hk,oP,rfl,HI⟩:=hrel;by_cases gm:k<n
  ·have eN:(k:aF)<(n:aF):=by omega
   obtain⟨f,hf⟩:∃ f,s1.bh[k]?=aO f:=⟨_,aU (by have:=HN.1;omega)⟩
   obtain⟨L4,h4,hv4,h5,h6,h7⟩:=HI.out;have hlen:(s1.np (jM p t) k).bh.length=n:=by rw[HN.1];simp[Sy.np]
   obtain⟨g,c,x,hv,hx,hg,p0,p1,p2,Nr,_⟩:=h4.obj (LA hf);have yE:=hv;rw[hv4,HN.2,hlen]at yE;injection yE with e1 e2 e3
   subst e1 e3;have d3:=h4.cells.2.2.2.1;rw[hv,hlen]at d3;have xq:=h4.lt;have f0:=Nr (k*3);have VC:f.bm.size<=1048576:=QO.2.2 f (bw hf);have nI:=fun Y=>oZ f.bm p Y (by unfold maxLen;omega) (by unfold maxLen;omega)
   have HW:ax ((f.bm.data.toList=p.data.toList\/anG f.bm p.data.toList=aI)->∀ o,∃ L4,cW aS ((wr.setCell ⟨g,k*3,aN⟩ (ai (t++f.bm.extract p.size f.bm.size))).alloc o).drew B (s1.np (jM p t) (k+1)) L4/\L4.vo=L3.vo/\((∀ b,gV B L4 b->gV B L2 b\/w0.heap.size<=b)/\L4.ex=L2.ex)/\au aS w0 ((wr.setCell ⟨g,k*3,aN⟩ (ai (t++f.bm.extract p.size f.bm.size))).alloc o).drew/\cA (gV B L2) w0 ((wr.setCell ⟨g,k*3,aN⟩ (ai (t++f.bm.extract p.size f.bm.size))).alloc o).drew):=fun hc o=>by
    obtain⟨⟨L5,a1,a2,a3,a4⟩,a5⟩:=h4.acH (LA hf) (by rw[hv]) (t++f.bm.extract p.size f.bm.size);have e:s1.np (jM p t) (k+1)=(s1.np (jM p t) k).dQ k { f with bm:=t++f.bm.extract p.size f.bm.size }:=by rw[Jb hf];unfold jM;rw[aY hc]
    have hY:=((Grown.refl (wr.setCell ⟨g,k*3,aN⟩ (ai (t++f.bm.extract p.size f.bm.size)))).alloc o).below.drew;exact⟨L5,by rw[e];exact a1.bB hY,a2.trans hv4,⟨fun b hb=>h5.1 b (by unfold gV at hb ⊢;rw[a2,a3]at hb;exact hb),a4.trans h5.2⟩,(h6.trans a5.low).trans (hY.mono (bc a1.aS (bM a1.lt))),(iU.on h4 h5 h6 h7 a5).keep.trans (cA.dB _ hY)⟩
   have M1:ax (¬ (f.bm.data.toList=p.data.toList\/anG f.bm p.data.toList=aI)->∀ o,∃ L4,cW aS (wr.alloc o) B (s1.np (jM p t) (k+1)) L4/\L4.vo=L3.vo/\((∀ b,gV B L4 b->gV B L2 b\/w0.heap.size<=b)/\L4.ex=L2.ex)/\au aS w0 (wr.alloc o)/\cA (gV B L2) w0 (wr.alloc o)):=fun hc o=>by
    have e:s1.np (jM p t) (k+1)=s1.np (jM p t) k:=by rw[Jb hf,show jM p t f=f by unfold jM;rw[aW hc]];unfold Sy.dQ;obtain⟨gm,e⟩:=aQ.1 (LA (g:=jM p t) hf);rw[show(s1.np (jM p t) k).bh.set k f=(s1.np (jM p t) k).bh by rw[<- e];exact Cz gm]
    have hY:=((Grown.refl wr).alloc o).below;exact⟨L4,by rw[e];exact h4.bB hY,hv4,h5,h6.trans (hY.mono (bc h4.aS (bM h4.lt))),h7.trans (cA.dB _ hY)⟩
   have Xc:anG f.bm p.data.toList=aI->p.size<=f.bm.size:=fun e=>by
    by_cases hp:p.data.toList=[]
    ·have:p.size=0:=by rw[<- ix,hp];rfl
     omega
    ·obtain⟨r,hr⟩:=(eB _ _ hp).1 e
     rw[<- ix,<- ix,hr];simp
   have gB:g≠B:=h4.rJ (.inl (by rw[hv];rfl));have gB':B≠g:=fun e=>gB e.symm
   have HHd:ax (f.bm.data.toList=p.data.toList->p.size<=f.bm.size):=fun e=>by rw[<- ix,<- ix,e];exact aV _
   have QL:ax _:=Xc;generalize f.bm=fp at p0 VC nI HW M1 HHd QL;generalize f.text=ftx at p1;clear h4 hv4 h5 h6 h7 hv hx hf hlen Nr Xc;have q0:=fun o=>bj o p0
   have q3:=fun o=>bj o d3
   have w0f:=fun o=>(AQ (w:=wr) o g (k*3) hg).trans f0
   cases si:(fp.toList == p.toList)
   ·have ZA:ax (¬ fp.data.toList=p.data.toList):=by show ¬ _;rw[bq,bq]at si;simpa using si
    cases uX:anG fp p.data.toList
    ·have HX:=M1.out (by rintro(e|e)<;>first|exact ZA.out e|(rw[uX]at e;cases e))
     have Cb:ax _:=HX;rw[uX]at nI;clear HW M1 uX HX;go_wp2_with (go_at_call 36;refine(nI _).mono ?_;rintro r wu ⟨rfl,rfl⟩);go_roundg (n-(k+1))
     case measure=>omega
     case rel=>exact⟨k+1,by omega,by omega,by go_num,Cb.out _⟩
    ·have O7:(p.size:aF)<=(fp.size:aF):=by have:=QL.out uX;omega
     have pj:(9223372036854775807<t.size+(fp.extract p.size fp.size).size)=False:=by simp;omega
     have Cb:ax _:=HW.out (.inr uX);rw[uX]at nI;clear HW M1 uX;go_wp2_with (go_at_call 36;refine(nI _).mono ?_;rintro r wu ⟨rfl,rfl⟩);go_region;all_goals
      go_wp2_with fail;go_roundg (n-(k+1))
      case measure=>omega
      case rel=>exact⟨k+1,by omega,by omega,by go_num,Cb.out _⟩
   ·have he:fp.data.toList=p.data.toList:=by rw[bq,bq]at si;simpa using si
    have O7:(p.size:aF)<=(fp.size:aF):=by have:=HHd.out he;omega
    have pj:(9223372036854775807<t.size+(fp.extract p.size fp.size).size)=False:=by simp;omega
    have Cb:ax _:=HW.out (.inl he);clear HW M1 he nI;go_wp2_with fail;go_region;all_goals
     go_wp2_with fail;go_roundg (n-(k+1))
     case measure=>omega
     case rel=>exact⟨k+1,by omega,by omega,by go_num,Cb.out _⟩
  ·have eN:¬ (k:aF)<(n:aF):=by omega
   obtain rfl:n=k:=by omega
   obtain⟨L4,h4,hv4,h5,h6,h7⟩:=HI.out;have hP:iU aS B (s1.np (jM p t) n) L2 w0 wr:=⟨⟨L4,h4,h5⟩,h6,h7⟩
   have Ys:=(h7.block U (aX.1 HC.2.1).1 (GY.other HC.2.1 (by decide) (by decide) (by decide))).trans HC.2.1;have v0:wr.cell? U=aO (ah pp n4 c4):=by simp[World.cell?,Ys]
   have v1:wr.cell? ⟨U,1,aN⟩=aO (ah vp vk ve):=by simp[World.cell?,Ys]
   have kQ:=uY.out _ _ hP QO.1;have XK:ax _:=HC.1.step ⟨GY.out,HC.2.2⟩ hP;have U2:ax (s.GI p t up=(s1.np (jM p t) n).di up s.cq):=by show _=_;rw[tF.out,HN.1,VV];rfl
   clear h4 hv4 h5 h6 h7 hP Ys uY;go_wp2_with (first
    | (go_at_call 13;refine kQ.mono ?_;clear kQ;rintro r w7 ⟨rfl,L5,Ul,Qr⟩;have XL:ax _:=XK.step ⟨Ul.1,fun b hb=>(Ul.2.1 b hb).elim (fun e=>HC.2.2.1 b e) (fun e=>.inr (bc HC.1.keep.size e)),Ul.2.2.trans HC.2.2.2⟩ Qr;clear Ul Qr)
    | (go_at_call 27;refine(fP _ _).mono ?_;rintro r wb ⟨rfl,fR⟩;have HB:ax _:=XL.pure fR;obtain⟨⟨b0,b1,b2,b3⟩,z0,z1,z2,z3⟩:=cK HB.gz;clear fR))
   exact ba (v:=ar #[aa ag 0,aa ag 0,ai ⟨#[]⟩,ah aN 0 0]) (by simp[results,results14,go_sem,b0,b1,b2,b3]) rfl (by rw[HG.out,U2.out];exact HB.iT 0 0 ⟨#[]⟩)
end
section
variable {aS:aE}{W:aw}{B:aE}{s:Sy}{L:ja}
theorem NT(h:cW aS W B s L)(ck cf cn cm:aF)(cp ct cx:aA)(ca:Bool)(ow:aE)(how:ow<4)(hl:cf<0\/¬ cf<0/\7<cf\/∃ k:aE,k<8/\cf=k/\s.fds (ow*8+k)=aN):ay aP 29 #[aj (aO B),ar #[aa ag ck,aa ag ow,aa ag cf,aa ag cn,aa ag cm,ai cp,ai ct,ai cx,aq ca]] W (ic aS B s (km 6) L W):=by
 have HS:ax (gL aS B s L W ⟨ck,ow,cf,cn,cm,cp,ct,cx,ca⟩ _):=gL.start h _;generalize hR:ic aS B _ _ L W=R;have HR:ax (_=R):=hR;clear hR h;go_enter func29,ntmps29;go_upto_region 0 with fail
 go_cut [3,4]from 3 to 4 (fun s3 s4 w=>s3=aj (aO W)/\s4=aj (aO ⟨↑W+1,0,aN⟩)/\ax (gL aS B s L W ⟨ck,ow,cf,cn,cm,cp,ct,cx,ca⟩ w))
 case first=>
  go_wp2_with fail;go_meet
  case rel=>exact⟨rfl,rfl,HS.out⟩
 obtain⟨rfl,rfl,HO⟩:=hcut;clear HS;obtain⟨⟨k0,k1,k2,k3,k4,k5,k6,k7,k8⟩,kl⟩:=HO.cells;have UA:(ow:aF)<4:=by omega
 have vB:∀ k:aE,k<8->s.fds (ow*8+k)=aN->wc.cell? ⟨B,5+ow*8+k,aN⟩=aO (aa ag (-1)):=fun k hk hf=>by obtain⟨L1,h1,_⟩:=HO.ex;have:=h1.fd (k:=ow*8+k) (by omega);rw[CP hf,<- dh 5]at this;exact this
 rcases hl with e|⟨e,e2⟩|⟨k,hk,rfl,hf⟩
 ·have g1:decide (cf<0)=aI:=dJ e
  clear vB;go_wp2_with fail;go_quiet (fail);go_wp2_with (go_at_call 27;refine(fP _ _).mono ?_;rintro r wb ⟨rfl,fR⟩;have HB:ax _:=(HO.pure (below_draws ⟨_,rfl⟩)).pure fR;obtain⟨⟨b0,b1,b2,b3⟩,z0,z1,z2,z3⟩:=cK HB.gz;clear fR);exact ba (v:=ar #[aa ag 6,aa ag 0,ai ⟨#[]⟩,ah aN 0 0]) (by simp[results,results29,go_sem,b0,b1,b2,b3]) rfl (by rw[<- HR.out];exact HB.iT 6 0 ⟨#[]⟩)
 ·have g1:decide (cf<0)=aH:=bD e
  have g2:decide (7<cf)=aI:=dJ e2;clear vB;go_wp2_with fail;go_quiet (fail);go_wp2_with (go_at_call 27;refine(fP _ _).mono ?_;rintro r wb ⟨rfl,fR⟩;have HB:ax _:=(HO.pure (below_draws ⟨_,rfl⟩)).pure fR;obtain⟨⟨b0,b1,b2,b3⟩,z0,z1,z2,z3⟩:=cK HB.gz;clear fR);exact ba (v:=ar #[aa ag 6,aa ag 0,ai ⟨#[]⟩,ah aN 0 0]) (by simp[results,results29,go_sem,b0,b1,b2,b3]) rfl (by rw[<- HR.out];exact HB.iT 6 0 ⟨#[]⟩)
 ·have g1:decide ((k:aF)<0)=aH:=bD (by omega)
  have g2:decide (7<(k:aF))=aH:=bD (by omega);have He:(k:aF)<8:=by omega
  have c5:=vB k hk hf;clear vB hf;go_wp2_with fail;go_quiet (fail);go_wp2_with (go_at_call 27;refine(fP _ _).mono ?_;rintro r wb ⟨rfl,fR⟩;have HB:ax _:=(HO.pure (below_draws ⟨_,rfl⟩)).pure fR;obtain⟨⟨b0,b1,b2,b3⟩,z0,z1,z2,z3⟩:=cK HB.gz;clear fR);exact ba (v:=ar #[aa ag 6,aa ag 0,ai ⟨#[]⟩,ah aN 0 0]) (by simp[results,results29,go_sem,b0,b1,b2,b3]) rfl (by rw[<- HR.out];exact HB.iT 6 0 ⟨#[]⟩)
end
