import Derived.Test.YtjnkfelecopbjaaGreatDoorYA26
import Derived.Test.YtjnkfelecopbjaaGreatDoorYA28
open Go.Proofs.Tryz
open Go.Value renaming int->aa,slice->ah,string->ai,agg->ar
open Go.IntKind renaming i64->ag
open Go.RowKit renaming Below->au
open Go renaming World->aw,Aside->ax,Addr->aJ
open _root_ renaming ByteArray->aA,List->aB,Option->aC,Nat->aE,Int->aF
open Go.Obj renaming cells->aM
open Option renaming none->aN,some->aO
set_option linter.all false
set_option maxHeartbeats 4000000
set_option maxRecDepth 100000
namespace Go.Proofs.YtjnkfelecopbjaaGreatDoor
open Go.RowKit PM Go.Sort
namespace PM
theorem S7(s:Sy)(ow k:aE)(ck cn cm:aF)(cx:aA)(ca:Bool)(j:aE)(op:qI)(f:Fl):(s.rV ow k ck cn cm cx ca j op f).2.2.names=[]:=by
 unfold Sy.rV
 repeat' split
 all_goals rfl
theorem PD(s:Sy)(ow:aE)(ck cf cn cm:aF)(cx:aA)(ca:Bool):(s.sF ow ck cf cn cm cx ca).2.2.names=[]:=by
 unfold Sy.sF;split
 ·rfl
 ·split
  ·rfl
  ·split
   ·rfl
   ·split
    ·rfl
    ·exact S7 _ _ _ _ _ _ _ _ _ _ _
theorem Lx(s:Sy)(w:aA):(s.uf w).names.length<=80:=by
 have hr:s.bA.length<=80:=(cY s.all).len;show(l7 _ _).1.length<=80;unfold l7;split
 ·show(jd _ _).length<=80
  unfold jd;rw[bQ];exact bc (ed _ _) hr
 ·exact bF _
theorem MB(s:Sy)(c:Cl):(s.je c).2.2.names.length<=80:=by
 unfold Sy.je
 repeat' split
 all_goals first|exact bF _|exact Lx _ _|(rw[PD];exact bF _)
theorem FQ(s:Sy)(c:Cl):(s.anL c).2.names.length<=80:=by
 unfold Sy.anL;split
 ·exact MB s c
 ·exact bF _
theorem Fp:∀ (l:aB Cl) (s:Sy),∀ a∈(s.run l).2,a.names.length<=80
 | [],s,a,h=>by cases h
 | c::r,s,a,h=>by
  rw[Sy.run]at h;rcases cX.1 h with h|h
  ·rw[h];exact FQ s c
  ·exact Fp r _ a h
end PM
theorem DC(bs:aB aA)(p q:aC aJ)(c d n:aE)(hn:n=bs.length)(w:aw)(h1:jy w p bs)(h2:jy w q bs)(hl:n<=80):EI 18 #[ah p n c,ah q n d] w:=by
 subst hn;rcases Nat.eq_zero_or_pos bs.length with h0|h0
 ·rw[h0]
  go_enter func18,ntmps18;go_wp2;refine wp_loop_rounds 1 ?_;rw[rounds_succ];go_wp2;go_ret;exact⟨rfl,aR _ _⟩
 ·have hne:bs≠[]:=by rintro rfl;cases h0
  obtain⟨g1,o1,rfl,x7,Ef⟩:=h1.resolve_left hne;obtain⟨g2,o2,rfl,uI,F9⟩:=h2.resolve_left hne;have HC1:ax (∀ (j:aE) x,bs[j]?=aO x->w.cell? ⟨g1,o1+j,aN⟩=aO (ai x)):=Ef;have UO:ax (∀ (j:aE) x,bs[j]?=aO x->w.cell? ⟨g2,o2+j,aN⟩=aO (ai x)):=F9;clear Ef F9 h1 h2;go_enter func18,ntmps18;go_wp2;go_loopw [13] (fun i wr=>∃ k:aE,k<=bs.length/\i=aa ag k/\∃ n,wr=w.drewN n) (fun i _=>bs.length-(intOf i).toNat)
  case atStart=>exact⟨0,bF _,rfl,0,rfl⟩
  case round=>
   obtain⟨k,hk,rfl,n,rfl⟩:=hrel;by_cases gm:k<bs.length
   ·have vL:(k:aF)<(bs.length:aF):=by omega
    obtain⟨p,hp⟩:∃ p,bs[k]?=aO p:=⟨_,aU gm⟩
    have Ga:=HC1.out k p hp;have xW:=UO.out k p hp;clear hp;go_wp2;go_quiet (fail);go_wp2;exact⟨⟨k+1,by omega,by go_num,_,rfl⟩,by simp[intOf];omega⟩
   ·have vL:¬ (k:aF)<(bs.length:aF):=by omega
    go_wp2;go_ret;exact⟨rfl,by repeat (first|exact aR _ _|refine cG ?_ _)⟩
theorem DB(er n:aF)(tx:aA)(bs:aB aA)(p q:aC aJ)(c d k:aE)(hk:k=bs.length)(w:aw)(h1:jy w p bs)(h2:jy w q bs)(hl:k<=80):EI 7 #[ar #[aa ag er,aa ag n,ai tx,ah p k c],ar #[aa ag er,aa ag n,ai tx,ah q k d]] w:=by
 obtain⟨X,hX⟩:=o7 ((w.alloc (aM #[aa ag er,aa ag n,ai tx,ah p k c] 38)).alloc (aM #[aa ag er,aa ag n,ai tx,ah q k d] 38))
 have mg:au w w X:=by rw[<- hX];exact((aR _ _).alloc (aV _) _).alloc (by simp) _
 have kQ:=fun Y (hY:au w.heap.size w Y)=>DC bs p q c d k hk Y (h1.bB hY) (h2.bB hY) hl
 obtain⟨⟨b0,b1,b2,b3⟩,_⟩:=cK (nB hX);obtain⟨⟨d0,d1,d2,d3⟩,_⟩:=cK (jm hX);have HX:ax (au w w X/\(w.alloc (aM #[aa ag er,aa ag n,ai tx,ah p k c] 38)).alloc (aM #[aa ag er,aa ag n,ai tx,ah q k d] 38)=X):=⟨mg,hX⟩
 clear mg hX h1 h2 hk hl;go_enter func7,ntmps7;go_wp2_with (first
  | (go_at_call 18;refine(kQ _ (by rw[HX.2];exact HX.1)).mono ?_;clear kQ;rintro r w3 ⟨rfl,eG⟩;rw[HX.2]at eG))
 go_ret;exact⟨by simp,Below.bK HX.1 eG⟩
theorem Jf:∀ {a b:aB aA},a.map (·.data.toList)=b.map (·.data.toList)->a=b
 | [],[],_=>rfl
 | [],y::t,h=>by simp at h
 | x::r,[],h=>by simp at h
 | x::r,y::t,h=>by simp only[iP,List.cons.injEq]at h;rw[fV h.1,Jf h.2]
theorem OJ{w:aw}{pa pb:aC aJ}{al:aB An}(h1:sO w pa al)(h2:sO w pb al){k:aE}(hk:k<al.length)(hm:∀ a∈al,a.names.length<=80):∃ b b' er n tx q q' c c' m,pa=aO ⟨b,0,aN⟩/\pb=aO ⟨b',0,aN⟩/\w.cell? ⟨b,k*4,aN⟩=aO (aa ag er)/\w.cell? ⟨b,k*4+1,aN⟩=aO (aa ag n)/\w.cell? ⟨b,k*4+2,aN⟩=aO (ai tx)/\w.cell? ⟨b,k*4+3,aN⟩=aO (ah q m c)/\w.cell? ⟨b',k*4,aN⟩=aO (aa ag er)/\w.cell? ⟨b',k*4+1,aN⟩=aO (aa ag n)/\w.cell? ⟨b',k*4+2,aN⟩=aO (ai tx)/\w.cell? ⟨b',k*4+3,aN⟩=aO (ah q' m c')/\ax (∀ Y,au w w Y->EI 7 #[ar #[aa ag er,aa ag n,ai tx,ah q m c],ar #[aa ag er,aa ag n,ai tx,ah q' m c']] Y):=by
 have hne:¬ al=[]:=by rintro rfl;cases hk
 obtain⟨b,rfl,_,g1⟩:=h1.resolve_left hne;obtain⟨b',rfl,_,g2⟩:=h2.resolve_left hne;have ha:al[k]?=aO al[k]:=aU hk;obtain⟨q,c,bs,c0,c1,c2,c3,c4,_,_,c7⟩:=g1 k _ ha;obtain⟨q',c',bs',d0,d1,d2,d3,d4,_,_,d7⟩:=g2 k _ ha;have e:bs=bs':=Jf (c4.trans d4.symm);subst e;have hl:bs.length<=80:=by have:=hm _ (bw ha);rw[<- c4,bQ]at this;exact this
 exact⟨b,b',_,_,_,q,q',c,c',_,rfl,rfl,c0,c1,c2,c3,d0,d1,d2,d3,fun Y hY=>DB _ _ _ bs q q' c c' _ rfl Y (c7.bB hY) (d7.bB hY) hl⟩
def FP(er:aF)(es:aB bP)(els:aB (aB bP))(tr:aB bP)(op n1 n3 na:aE)(qY:aB An)(W:aw)(r:Ending)(W':aw):Prop:=∃ (ad:aC aJ) (cap:aE) (lo:aB Lay) (pl:aC aJ) (cl:aE) (ps:aC aJ) (sc ln:aE) (pa:aC aJ) (ac:aE),r=.returned (.tuple #[ar #[ah ad n1 cap,ah pl ln cl,ah ps n3 sc,aa ag op],ah pa na ac,aa ag er])/\au W W W'/\ax (ln=lo.length/\lo.map (·.es)=els/\bI W' ad es/\gj W' pl lo/\(∀ x∈lo,jP W' x)/\bI W' ps tr/\na<=ac/\sO W' pa qY)
theorem zn{e:aF}{W:aw}{r:Ending}{W':aw}(h:zX e W r W'):FP e [] [] [] 0 0 0 0 [] W r W':=⟨aN,0,[],aN,0,aN,0,0,aN,0,h.1,h.2,rfl,rfl,.inl rfl,.inl rfl,fun x hx=>by simp at hx,.inl rfl,aV _,.inl rfl⟩
theorem Jh{s:Sy}{qY:aB An}{W:aw}{r:Ending}{W':aw}{n1 n3 na op:aE}(e1:n1=s.up.length)(e2:n3=s.bA.length)(e3:na=qY.length)(e4:op=s.cr.length)(h:vy s qY W r W'):FP 0 s.up s.cq s.bA op n1 n3 na qY W r W':=by obtain⟨y,lo,pl,cl,ps,sc,yn,ln,sn,o,pa,m,ac,h1,h2,h3⟩:=h;obtain⟨f1,f2,f3,f4,f5,f6,f7,f8,f9,f10,f11,f12,f13,f14⟩:=h3.out;refine⟨y.ad,y.cap,lo,pl,cl,ps,sc,ln,pa,ac,?_,h2,f2,f6,f5▸f7.up.anO,f7.anO,fun x hx=>(f7.each x hx).1,f8,by rw[e3,<- f11];exact f12,f14⟩;rw[h1,f1,f3,f4,f5,f11,e1,e2,e3,e4]
theorem MH(y:Lay)(lo:aB Lay)(pl:aC aJ)(cl:aE)(pc:aC aJ)(cc:aE)(l:aB Cl)(W:aw)(hU:eZ W y lo pl cl)(hg:Gl W W)(Am:∀ x∈y::lo,∀ e∈x.es,e.bm.size<=1048576/\e.text.size<=1048576)(hC:vu W pc l)(hs:∀ c∈l,c.bm.size<=1048576/\c.tw.size<=1048576/\c.text.size<=1048576):∃ er es els tr op n1 n3 na qY,(∀ Y,au W W Y->Calls Tryz.prog 4 #[ar #[ah y.ad y.es.length y.cap,ah pl lo.length cl],ah pc l.length cc] Y (FP er es els tr op n1 n3 na qY Y)/\Calls Tryz.prog 5 #[ar #[ah y.ad y.es.length y.cap,ah pl lo.length cl],ah pc l.length cc] Y (FP er es els tr op n1 n3 na qY Y))/\n1=es.length/\n3=tr.length/\na=qY.length/\es.length<=80/\els.length<=80/\tr.length<=80/\na<=80/\∀ a∈qY,a.names.length<=80:=by
 have hd:=fun Y (hY:au W.heap.size W Y)=>Ow y lo pl cl pc cc l Y (hU.bB hY) Am (hC.bB hY) hs
 by_cases h0:(bH (y.es::lo.map (·.es))).1=0
 ·by_cases oq:80<l.length
  ·exact⟨5,[],[],[],0,0,0,0,[],fun Y hY=>⟨(PO y lo pl cl pc l.length cc Y (hU.bB hY) (hg.up hY) h0 oq).mono fun r w' h=>zn h,(hd Y hY).mono fun r w' h=>zn (h.2.1 h0 oq)⟩,rfl,rfl,rfl,bF _,bF _,bF _,bF _,fun a ha=>by simp at ha⟩
  ·have hu:=(vI l (xR h0)).un
   obtain⟨h5,hz,hr⟩:=gT.1 hu;refine⟨0,_,_,_,_,_,_,_,_,fun Y hY=>⟨(Tj y lo pl cl pc cc l Y (hU.bB hY) (hg.up hY) h0 (by omega) (hC.bB hY) (fun c hc=>by have:=hs c hc;exact⟨by omega,by omega,by omega⟩)).mono fun r w' h=>Jh rfl rfl rfl rfl h,(hd Y hY).mono fun r w' h=>Jh rfl rfl rfl rfl (h.2.2 h0 (by omega))⟩,rfl,rfl,rfl,(hr _ (by simp[Sy.all])).len,by simp[Sy.all]at h5;omega,(cY _).len,by rw[GL];omega,Fp l _⟩
 ·exact⟨_,[],[],[],0,0,0,0,[],fun Y hY=>⟨(Ma y lo pl cl pc l.length cc Y (hU.bB hY) (hg.up hY) h0).mono fun r w' h=>zn h,(hd Y hY).mono fun r w' h=>zn (h.1 h0)⟩,rfl,rfl,rfl,bF _,bF _,bF _,bF _,fun a ha=>by simp at ha⟩
theorem Qa(y:Lay)(lo:aB Lay)(pl:aC aJ)(cl:aE)(pc:aC aJ)(cc:aE)(l:aB Cl)(W:aw)(hU:eZ W y lo pl cl)(hg:Gl W W)(Am:∀ x∈y::lo,∀ e∈x.es,e.bm.size<=1048576/\e.text.size<=1048576)(hC:vu W pc l)(hs:∀ c∈l,c.bm.size<=1048576/\c.tw.size<=1048576/\c.text.size<=1048576):EI 3 #[ar #[ah y.ad y.es.length y.cap,ah pl lo.length cl],ah pc l.length cc] W:=by
 obtain⟨er,es,els,tr,op,n1,n3,na,qY,hb,e1,e3,ea,oq,rS,Aq,Qu,xG⟩:=MH y lo pl cl pc cc l W hU hg Am hC hs;generalize y.es.length=yn at *;generalize lo.length=ln at *;generalize l.length=n at *;have D0:=fun Y hY=>(hb Y hY).1
 have Hg:=fun Y hY=>(hb Y hY).2
 have HM:ax (n1=es.length/\n3=tr.length/\na=qY.length/\es.length<=80/\els.length<=80/\tr.length<=80/\∀ a∈qY,a.names.length<=80):=⟨e1,e3,ea,oq,rS,Aq,xG⟩
 have lV:ax (au W W (W.alloc (aM #[ah y.ad yn y.cap,ah pl ln cl] 26))):=(aR _ _).alloc (aV _) _;clear hU hg Am hC hs hb e1 e3 ea oq rS Aq xG;go_enter func3,ntmps3;go_wp2_with (first
  | (go_at_call 4;refine(D0 _ lV.out).mono ?_;clear D0;rintro r w3 ⟨ad3,aaU,lo3,pl3,cl3,ps3,sc3,ln3,pa3,ac3,rfl,eG,H3⟩;obtain⟨⟨u0,u1⟩,_⟩:=nw (by simp) eG;have lu:W.heap.size<w3.heap.size:=bg u0;have mm:ax (au W W (w3.alloc (aM #[ah ad3 n1 aaU,ah pl3 ln3 cl3,ah ps3 n3 sc3,aa ag op] 29))):=(Below.bK lV.out eG).alloc (Below.bK lV.out eG).size _;clear eG)
  | (go_at_call 5;refine(Hg _ mm.out).mono ?_;clear Hg;rintro r w4 ⟨ad4,cap4,lo4,vp,ve,ps4,sc4,vk,pa4,ac4,rfl,eO,H4⟩;obtain⟨⟨a0,a1,a2,a3⟩,_⟩:=iv (by simp) eO;have la:w3.heap.size<w4.heap.size:=bg a0;have kT:ax (au W W (w4.alloc (aM #[ah ad4 n1 cap4,ah vp vk ve,ah ps4 n3 sc4,aa ag op] 29))):=(Below.bK mm.out eO).alloc (Below.bK mm.out eO).size _;have HX:ax (au w3 w3 (w4.alloc (aM #[ah ad4 n1 cap4,ah vp vk ve,ah ps4 n3 sc4,aa ag op] 29))/\au w4 w4 (w4.alloc (aM #[ah ad4 n1 cap4,ah vp vk ve,ah ps4 n3 sc4,aa ag op] 29))):=⟨(Below.bK ((aR _ w3).alloc (aV _) _) eO).alloc (by omega) _,(aR _ _).alloc (aV _) _⟩;clear eO u0 u1 lu)
  | (go_at_call 6;refine(Ev es els tr op ad3 ad4 aaU cap4 lo3 lo4 pl3 vp cl3 ve ps3 ps4 sc3 sc4 n1 ln3 vk n3 HM.1 H3.1 H4.1 HM.2.1 _ (H3.2.2.1.bB HX.1) (H4.2.2.1.bB HX.2) (by have:=HM.2.2.2.1;omega) (H3.2.2.2.1.bB HX.1) (H4.2.2.2.1.bB HX.2) (fun x hx=>(H3.2.2.2.2.1 x hx).bB HX.1) (fun x hx=>(H4.2.2.2.2.1 x hx).bB HX.2) H3.2.1 H4.2.1 HM.2.2.2.2.1 (H3.2.2.2.2.2.1.bB HX.1) (H4.2.2.2.2.2.1.bB HX.2) (by have:=HM.2.2.2.2.2.1;omega)).mono ?_;rintro r w5 ⟨rfl,fA⟩;have H5:ax (au W W w5/\sO w5 pa3 qY/\sO w5 pa4 qY/\na<=ac3/\na<=ac4):=⟨Below.bK kT.out fA,(H3.2.2.2.2.2.2.2.bB HX.1).bB fA,(H4.2.2.2.2.2.2.2.bB HX.2).bB fA,H3.2.2.2.2.2.2.1,H4.2.2.2.2.2.2.1⟩;clear fA a0 a1 a2 a3 la))
 clear lV mm kT HX H3 H4
 rename aw=>w5
 go_loopg [44] na (fun gg i wr=>∃ k:aE,k<=na/\na-k<=gg/\i=aa ag k/\ax (au w5 w5 wr))
 case atStart=>exact⟨0,bF _,by omega,rfl,aR _ _⟩
 case round=>
  obtain⟨k,hk,oP,rfl,HI⟩:=hrel;by_cases gm:k<na
  ·have eN:(k:aF)<(na:aF):=by omega
   obtain⟨b,b',e0,nn,tx,q,q',c,c',m,e1,e2,g0,g1,g2,g3,h0,h1,h2,h3,HS⟩:=OJ (H5.2.1.bB HI.out) (H5.2.2.1.bB HI.out) (k:=k) (by rw[<- HM.2.2.1];exact gm) HM.2.2.2.2.2.2;subst e1 e2;have lb:=bg g0;have lb':=bg h0;go_wp2;go_region_held3 (fun w'=>(w'.cell? ⟨b,k*4,aN⟩=aO (aa ag e0)/\w'.cell? ⟨b,k*4+1,aN⟩=aO (aa ag nn)/\w'.cell? ⟨b,k*4+2,aN⟩=aO (ai tx)/\w'.cell? ⟨b,k*4+3,aN⟩=aO (ah q m c))/\(w'.cell? ⟨b',k*4,aN⟩=aO (aa ag e0)/\w'.cell? ⟨b',k*4+1,aN⟩=aO (aa ag nn)/\w'.cell? ⟨b',k*4+2,aN⟩=aO (ai tx)/\w'.cell? ⟨b',k*4+3,aN⟩=aO (ah q' m c'))) (go_keep) (first
    | (go_at_call 7;refine(HS.out _ (aR _ _).drew).mono ?_;rintro r w9 ⟨rfl,ZT⟩;have xO:ax (au wr wr w9):=((aR _ _).drew).trans ZT;have z0:=(xO.cell (p:=⟨b,k*4,aN⟩) lb).trans g0;have z1:=(xO.cell (p:=⟨b,k*4+1,aN⟩) lb).trans g1;have z2:=(xO.cell (p:=⟨b,k*4+2,aN⟩) lb).trans g2;have z3:=(xO.cell (p:=⟨b,k*4+3,aN⟩) lb).trans g3;have z4:=(xO.cell (p:=⟨b',k*4,aN⟩) lb').trans h0;have z5:=(xO.cell (p:=⟨b',k*4+1,aN⟩) lb').trans h1;have z6:=(xO.cell (p:=⟨b',k*4+2,aN⟩) lb').trans h2;have z7:=(xO.cell (p:=⟨b',k*4+3,aN⟩) lb').trans h3;clear ZT))
   all_goals
    go_wp2;go_roundg (na-(k+1))
    case measure=>omega
    case rel=>exact⟨k+1,by omega,by omega,by go_num,Below.bK HI.out xO.out⟩
  ·have eN:¬ (k:aF)<(na:aF):=by omega
   go_wp2;go_ret;exact⟨by simp,Below.bK H5.1 HI.out⟩
