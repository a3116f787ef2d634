import Derived.Test.YtjnkfelecopbjaaGreatDoorYA8
import Derived.Test.YtjnkfelecopbjaaGreatDoorSortLayK
open Go.Proofs.Tryz
open Go.Value renaming int->aa,slice->ah,pointer->aj,bool->aq,agg->ar,tuple->aL
open Go.IntKind renaming i64->ag
open Go.RowKit renaming Below->au
open Go renaming World->aw,Aside->ax,Calls->ay,Value->az,Addr->aJ
open _root_ renaming List->aB,Option->aC,Nat->aE,Int->aF
open Bool renaming false->aH,true->aI
open Go.Ending renaming returned->aK
open Go.Obj renaming cells->aM
open Option renaming none->aN,some->aO
open Go.Proofs.Tryz renaming prog->aP
set_option linter.all false
set_option maxHeartbeats 4000000
set_option maxRecDepth 100000
namespace Go.Proofs.YtjnkfelecopbjaaGreatDoor.LK
open Go.RowKit Go.Sort KM
def kb:aB aF->aF
 | []=>0
 | x::r=>if x=0 then kb r else x
theorem Gw(xs:aB aF)(B cap:aE)(w:aw)(hn:xs.length<=100)(hc:∀ j x,xs[j]?=aO x->w.cell? ⟨B,j,aN⟩=aO (aa ag x)):ay aP 109 #[ah (aO B) xs.length cap] w fun e w'=>e=aK (aa ag (kb xs))/\w'=w:=by
 have HC:ax (∀ j x,xs[j]?=aO x->w.cell? ⟨B,j,aN⟩=aO (aa ag x)):=hc;obtain⟨n,eK⟩:=ee xs.length
 have HN:ax (n=xs.length):=eK;rw[<- eK]at hn ⊢;clear eK hc;go_enter func109,ntmps109;go_wp2;go_loop [8] (fun i=>∃ k:aE,k<=n/\i=aa ag k/\ax (kb (xs.drop k)=kb xs)) (fun i=>n-(intOf i).toNat)
 case atStart=>exact⟨0,bF _,rfl,by show _=_;rfl⟩
 case round=>
  obtain⟨k,hk,rfl,HA⟩:=hrel;by_cases gm:k<n
  ·have eN:(k:aF)<(n:aF):=by omega
   obtain⟨y,hy⟩:∃ y,xs[k]?=aO y:=⟨_,aU (by have:=HN.out;omega)⟩
   have hcell:=HC.out k y hy;have HD:ax (kb (xs.drop k)=if y=0 then kb (xs.drop (k+1))else y):=by obtain⟨h1,h2⟩:=aQ.1 hy;show _=_;rw[cP h1,kb,h2]
   clear hy;by_cases h0:y=0
   ·have HE:ax (kb (xs.drop (k+1))=kb xs):=by show _=_;rw[<- HA.out,HD.out,aY h0]
    clear HD HA;go_wp2;exact⟨⟨k+1,by omega,by go_num,HE⟩,by simp[intOf];omega⟩
   ·have HE:ax (kb xs=y):=by show _=_;rw[<- HA.out,HD.out,aW h0]
    clear HD HA;go_wp2;go_ret;exact⟨gu HE.symm,rfl⟩
  ·have eN:¬ (k:aF)<(n:aF):=by omega
   have HE:ax (kb xs=0):=by show _=_;rw[<- HA.out,cy (by have:=HN.out;omega)];rfl
   clear HA;go_wp2;go_ret;exact⟨gu HE.symm,rfl⟩
theorem PE(xs:aB aF)(B cap:aE)(w:aw)(hn:xs.length<=100)(hc:∀ j x,xs[j]?=aO x->w.cell? ⟨B,j,aN⟩=aO (aa ag x)):ay aP 189 #[ah (aO B) xs.length cap] w fun e w'=>e=aK (aa ag (kb xs))/\w'=w:=by
 have HC:ax (∀ j x,xs[j]?=aO x->w.cell? ⟨B,j,aN⟩=aO (aa ag x)):=hc;obtain⟨n,eK⟩:=ee xs.length
 have HN:ax (n=xs.length):=eK;rw[<- eK]at hn ⊢;clear eK hc;go_enter func189,ntmps189;go_wp2;go_loop [8] (fun i=>∃ k:aE,k<=n/\i=aa ag k/\ax (kb (xs.drop k)=kb xs)) (fun i=>n-(intOf i).toNat)
 case atStart=>exact⟨0,bF _,rfl,by show _=_;rfl⟩
 case round=>
  obtain⟨k,hk,rfl,HA⟩:=hrel;by_cases gm:k<n
  ·have eN:(k:aF)<(n:aF):=by omega
   obtain⟨y,hy⟩:∃ y,xs[k]?=aO y:=⟨_,aU (by have:=HN.out;omega)⟩
   have hcell:=HC.out k y hy;have HD:ax (kb (xs.drop k)=if y=0 then kb (xs.drop (k+1))else y):=by obtain⟨h1,h2⟩:=aQ.1 hy;show _=_;rw[cP h1,kb,h2]
   clear hy;by_cases h0:y=0
   ·have HE:ax (kb (xs.drop (k+1))=kb xs):=by show _=_;rw[<- HA.out,HD.out,aY h0]
    clear HD HA;go_wp2;exact⟨⟨k+1,by omega,by go_num,HE⟩,by simp[intOf];omega⟩
   ·have HE:ax (kb xs=y):=by show _=_;rw[<- HA.out,HD.out,aW h0]
    clear HD HA;go_wp2;go_ret;exact⟨gu HE.symm,rfl⟩
  ·have eN:¬ (k:aF)<(n:aF):=by omega
   have HE:ax (kb xs=0):=by show _=_;rw[<- HA.out,cy (by have:=HN.out;omega)];rfl
   clear HA;go_wp2;go_ret;exact⟨gu HE.symm,rfl⟩
theorem Au(a:aF)(w:aw):ay aP 221 #[aa ag a] w fun r w'=>r=aK (aq aH)/\w'=w:=by go_enter func221,ntmps221;go_wp2;go_ret;exact⟨by simp,rfl⟩
theorem Rc(a b:aF)(w:aw):ay aP 190 #[aa ag a,aa ag b] w fun r w'=>r=aK (aa ag (uU a b))/\w'=w:=by
 by_cases h1:a<b
 ·have H:ax (uU a b = -1):=by show _=_;rw[uU,aY h1]
  go_enter func190,ntmps190;go_wp2_with (go_at_call 221;refine(Au _ _).mono ?_;rintro r w' ⟨rfl,hw⟩;subst hw);go_ret;exact⟨gu H.symm,rfl⟩
 ·by_cases h2:b<a
  ·have H:ax (uU a b=1):=by show _=_;rw[uU,aW h1,aY h2]
   go_enter func190,ntmps190;go_wp2_with (go_at_call 221;refine(Au _ _).mono ?_;rintro r w' ⟨rfl,hw⟩;subst hw);go_ret;exact⟨gu H.symm,rfl⟩
  ·have H:ax (uU a b=0):=by show _=_;rw[uU,aW h1,aW h2]
   go_enter func190,ntmps190;go_wp2_with (go_at_call 221;refine(Au _ _).mono ?_;rintro r w' ⟨rfl,hw⟩;subst hw);go_ret;exact⟨gu H.symm,rfl⟩
theorem Xq{X:aw}{B:aE}{a b:az}{t:TypeId}(hB:B=X):((X.alloc (aM #[a,b] t)).drew).cell? B=aO a/\((X.alloc (aM #[a,b] t)).drew).cell? ⟨B,1,aN⟩=aO b:=by subst hB;exact⟨show(X.alloc (aM #[a,b] t)).cell? _=_ by simp,show(X.alloc (aM #[a,b] t)).cell? _=_ by simp⟩
theorem V0(a b:Lk):kb [uU a.o b.o,uU a.f b.f]=vC a b:=by
 simp only[kb,vC];split
 ·split
  ·rename_i h;exact h.symm
  ·rfl
 ·rfl
theorem Tc(a b:aF)(B:aE)(W:aw)(h0:W.cell? B=aO (aa ag a))(h1:W.cell? ⟨B,1,aN⟩=aO (aa ag b)):ay aP 189 #[ah (aO B) 2 2] W fun e w'=>e=aK (aa ag (kb [a,b]))/\w'=W:=
 PE [a,b] B 2 W (by show 2<=100;decide) (fun j x hj=>by
  match j,hj with
  | 0,hj=>simp at hj;subst hj;exact h0
  | 1,hj=>simp at hj;subst hj;exact h1)
theorem Tb(a b:aF)(B:aE)(W:aw)(h0:W.cell? B=aO (aa ag a))(h1:W.cell? ⟨B,1,aN⟩=aO (aa ag b)):ay aP 109 #[ah (aO B) 2 2] W fun e w'=>e=aK (aa ag (kb [a,b]))/\w'=W:=
 Gw [a,b] B 2 W (by show 2<=100;decide) (fun j x hj=>by
  match j,hj with
  | 0,hj=>simp at hj;subst hj;exact h0
  | 1,hj=>simp at hj;subst hj;exact h1)
theorem vD(a b:Lk)(w:aw):ay aP 188 #[ar #[aa ag a.o, aa ag a.f, aa ag a.t, aq a.a],ar #[aa ag b.o, aa ag b.f, aa ag b.t, aq b.a]] w fun r w'=>r=aK (aa ag (vC a b))/\Grown w w':=by
 have HK:ax (kb [uU a.o b.o,uU a.f b.f]=vC a b):=V0 a b;go_enter func188,ntmps188;go_wp2;go_region_held3 (fun w'=>w'.cell? w=aO (aa ag a.o)/\w'.cell? ⟨w,1,aN⟩=aO (aa ag a.f)/\w'.cell? ⟨↑w+1,0,aN⟩=aO (aa ag b.o)/\w'.cell? ⟨↑w+1,1,aN⟩=aO (aa ag b.f)) (go_keep) (first
  | (go_at_call 190;refine(Rc _ _ _).mono ?_;rintro r w' ⟨rfl,hw⟩;subst hw)
  | (go_at_call 189;refine(Tc _ _ _ _ (Xq (by simp)).1 (Xq (by simp)).2).mono ?_;rintro r w' ⟨rfl,hw⟩;subst hw))
 go_wp2;go_ret;exact⟨gu HK.out,((((Grown.refl w).alloc _).alloc _).alloc _).drewN 1⟩
def Ig(x y:Lk):aF:=vC x y
theorem VU(x y:Lk):ltOf Ig x y=decide (vC x y<0):=rfl
theorem TU:SWO (ltOf Ig) where
 irrefl x:=by rw[VU];refine bD ?_;rw[Ce];omega
 trans x y z h1 h2:=by rw[VU]at *;have g1:=dE h1;have g2:=dE h2;refine dJ ?_;rw[Ce]at *;omega
 ntrans x y z h1 h2:=by rw[VU]at *;have g1:=gw h1;have g2:=gw h2;refine bD ?_;rw[Ce]at *;omega
theorem CI(blk off size:aE)(w:aw):CmpLays aP 188 #[] jY 4 Ig blk off size w:=
 fun _ _ _ _ x y=>vD x y _
theorem vH{α:Type}[Inhabited α](enc:α->aB az)(k:aE)(w:aw)(blk off n:aE)(d:Array α)(os:Array Obj):w.grownBy (sortWorldK enc k w blk off n d os) (aO blk):=by
 refine⟨rfl,rfl,rfl,?_,fun j hj hn=>?_⟩
 ·show w.heap.size<=((w.heap.modify blk _)++os).size
  simp
 ·show((w.heap.modify blk _)++os)[j]?=_
  rw[lA (by simpa using hj),iJ,aW (by intro e;exact hn (by rw[e]))]
theorem yg{x y:Lk}:ltOf Ig y x=aH↔¬ vC y x<0:=by rw[VU];exact ra
theorem zG(l:aB Lk)(g cap:aE)(w:aw)(hO:Own w g cap l)(hn:l.length<=2000):ay aP 187 #[ah (aO g) l.length cap,.func (.func 188) #[] #[]] w fun e w'=>
   e=aK (aL #[])/\∃ l':aB Lk,l'.Perm l/\l'.Pairwise (fun a b=>¬ vC b a<0)/\bI w' (aO ⟨g,0,aN⟩) l'/\w.grownBy w' (aO g):=by
 have eg:∀ args w,(callFunc 188 args).run aP w=.ok (.enter 188 args) w:=enters_of func188 (by kernel_rfl) rfl;have hd:l.toArray.size=l.length:=by simp
 have nY:∀ j:aE,j<l.length->l[j]?=aO (l.toArray[j]!):=fun j hj=>by rw[nH _ j (by rw[hd];exact hj)];simp[hj]
 have hH:HoldsK jY 4 w g 0 l.toArray:=by
  intro j hj;rw[size_flatK,hd]at hj;rw[get_flatK _ _ _ _ (by rw[hd];exact hj),dD];refine⟨?_,hO.frozen _⟩;have hm:j % 4<4:=U6 _ (by decide);have he:=nY (j / 4) (by omega);have hv:(jY (l.toArray[j / 4]!))[j % 4]?=aO ((jY l.toArray[j / 4]!)[j % 4]!):=by rw[mV,aU (by rw[lY];exact hm)];rfl
  have:=hO.cell he hv
  rwa [show j / 4*4+j % 4=j by omega]at this
 have Sj:Lib.bitLen l.length<4611686018427387904:=Nat.lt_of_le_of_lt (Lib.bitLen_le l.length 62 (by omega) (by omega)) (by omega);have td:=AnyQ.pdqsortCmpFunc_all Tryz.sortK 4 Tryz.isAgg117 Tryz.sizeOf117 jY Ig 188 #[] TU g 0 cap l.toArray w eg (CI g 0 _ w) ⟨fun _=>rfl,fun x v hv=>kA (t:=[x]) (by simpa[jY]using hv),hH,hO.lt⟩ (l.toArray.size+1) 0 l.toArray.size (Lib.bitLen l.length) l.toArray w (by omega) rfl (SWK.start hH) (bF _) (aV _) (by rw[hd];omega) Sj (Or.inl rfl);have Db:=pdq_sorts (ltOf Ig) TU l.toArray 0 l.toArray.size (Lib.bitLen l.length) aI aI (bF _) (aV _) (Or.inl rfl);generalize pdq (ltOf Ig) l.toArray 0 l.toArray.size (Lib.bitLen l.length) aI aI=d' at td Db;change ay aP 220 _ _ _ at td;have hl:ay aP 158 #[.int .u64 (l.length:aF)] w fun e w'=>e=aK (aa ag (Lib.bitLen l.length:aE))/\w'=w:=by
  have h:=Any.bits_Len (SlLaysF0.n15.bits Tryz.bitsK) (l.length:aF) w (by omega) (by omega)
  rwa [Kl]at h
 have wr:IntKind.u64.wrap (l.length:aF)=l.length:=by simp[IntKind.wrap,IntKind.bits,IntKind.signed];omega
 obtain⟨hp,hs⟩:=Db;rw[hd]at td hp hs;have HO:ax (Own w g cap l):=hO;have HP:ax (PermIn 0 l.length l.toArray d'/\SortedIn (ltOf Ig) 0 l.length d'):=⟨hp,hs⟩
 have HH:ax (HoldsK jY 4 w g 0 l.toArray):=hH;have HD:ax (l.toArray.size=l.length):=hd;have HG:ax (∀ j:aE,j<l.length->l[j]?=aO (l.toArray[j]!)):=nY;clear hO hp hs hH nY hd eg;generalize xV:Lib.bitLen l.length=bl at *;clear xV;generalize eK:l.length=n0 at td hl wr hn Sj ⊢;have HN:ax (l.length=n0):=eK;clear eK;go_enter func187,ntmps187;go_wp2_with (first|(go_at_call 158;refine hl.mono ?_;rintro e wx ⟨rfl,Hh⟩;subst wx)|(go_at_call 220;refine td.mono ?_;rintro e w' ⟨rfl,n,os,rfl⟩));go_end0;obtain⟨hp,hs⟩:=HP.out;have hd:=HD.out;have hO:=HO.out;have hH:=HH.out;refine⟨rfl,d'.toList,?_,?_,?_,vH _ _ _ _ _ _ _ _⟩
 ·obtain⟨h1,_,h3⟩:=hp
  rw[hd]at h1;have e1:d'.extract 0 l.length=d':=by rw[<- h1,xd]
  have e2:l.toArray.extract 0 l.length=l.toArray:=by rw[<- hd,xd]
  rw[e1,e2]at h3;exact h3
 ·rw[fD]
  intro i j hi hj O5;have h1:=hp.1;rw[hd]at h1;simp at hi hj;have:=hs i j (bF _) O5 (by omega);rw[nH d' j hj,nH d' i hi]at this;simpa using yg.1 this
 ·have h1:=hp.1
  have hH':=holdsK_sortWorldK jY 4 w g 0 n l.toArray d' os hO.lt hH h1;have iL:=(vH jY 4 w g 0 n d' os).size;refine .inr ⟨g,0,rfl,aZ hO.lt iL,fun j e he i v hv=>?_⟩;rw[gJ]at he;obtain⟨hj,rfl⟩:=aX.1 he;have hi:=sa hv;have:=(HoldsK.cell hH' hj hi).1;rw[nH d' j hj]at this;rw[this];rw[mV,hv];rfl
end Go.Proofs.YtjnkfelecopbjaaGreatDoor.LK
namespace Go.Proofs.YtjnkfelecopbjaaGreatDoor.LK
open Go.RowKit Go.Sort KM
variable{H n:aE}{W w:aw}{l:aB Lk}
theorem Oe(x y:Lk)(w:aw):ay aP 186 #[ar #[aa ag x.o, aa ag x.f, aa ag x.t, aq x.a],ar #[aa ag y.o, aa ag y.f, aa ag y.t, aq y.a]] w fun r w'=>r=aK (aq (gq x y))/\Grown w w':=by
 obtain⟨xo,xf,xt,xa⟩:=x;obtain⟨yo,yf,yt,ya⟩:=y;simp only;by_cases h1:xo=yo
 ·go_enter func186,ntmps186
  go_wp2;go_ret;exact⟨df (by simp[KM.gq, *]<;>omega),((Grown.refl w).alloc _).alloc _⟩
 ·have h1':(xo != yo)=aI:=bne_iff_ne.2 h1
  cases xa<;>cases ya<;>by_cases h3:xf<yt <;>
  (go_enter func186,ntmps186
   go_wp2;go_ret;exact⟨df (by simp[KM.gq, *]<;>omega),((Grown.refl w).alloc _).alloc _⟩)
theorem JA(y x:Lk)(w:aw):ay aP 191 #[ar #[aa ag y.o, aa ag y.f, aa ag y.t, aq y.a],ar #[aa ag x.o, aa ag x.f, aa ag x.t, aq x.a]] w fun r w'=>r=aK (aq (xy y x))/\Grown w w':=by
 obtain⟨xo,xf,xt,xa⟩:=x;obtain⟨yo,yf,yt,ya⟩:=y;simp only;by_cases h1:yo=xo
 ·by_cases h2:yt<xf
  ·go_enter func191,ntmps191
   go_wp2;go_ret;exact⟨df (by simp[KM.xy, *]),((Grown.refl w).alloc _).alloc _⟩
  ·by_cases h3:yt=xf
   ·cases xa<;>cases ya <;>
    (go_enter func191,ntmps191
     go_wp2;go_ret;exact⟨df (by simp[KM.xy]),((Grown.refl w).alloc _).alloc _⟩)
   ·have h3':(yt == xf)=aH:=dw.2 h3
    go_enter func191,ntmps191;go_wp2;go_ret;exact⟨df (by simp[KM.xy, *]),((Grown.refl w).alloc _).alloc _⟩
 ·go_enter func191,ntmps191
  go_wp2;go_ret;exact⟨df (by simp[KM.xy, *]),((Grown.refl w).alloc _).alloc _⟩
theorem LB(y x:Lk)(B:aE)(w:aw)(hB:B<w)(hc:∀ i v,(jY x)[i]?=aO v->w.cell? ⟨B,i,aN⟩=aO v):ay aP 185 #[ar #[aa ag y.o, aa ag y.f, aa ag y.t, aq y.a],aj (aO B)] w fun r w'=>r=aK (aq (gq x y))/\Grown w w':=by
 have c0:=hc 0 _ rfl;have c1:=hc 1 _ rfl;have c2:=hc 2 _ rfl;have c3:=hc 3 _ rfl;clear hc;have hne:B≠w.heap.size:=by omega
 go_enter func185,ntmps185;go_wp2_with (go_at_call 186;refine(Oe x y _).mono ?_;rintro r w' ⟨rfl,hG⟩);go_ret;exact⟨rfl,((Grown.refl w).alloc _).trans hG⟩
def DR:Lk:=⟨0,0,0,aH⟩
def Kp(l:aB Lk)(x y:Lk)(b:Bool):Prop:=(b=aH/\y=DR/\l.any (gq x)=aH)\/(b=aI/\l.find? (gq x)=aO y)
theorem Kp.any{x y:Lk}{b:Bool}(h:Kp l x y b):l.any (gq x)=b:=by
 rcases h with⟨rfl,_,h⟩|⟨rfl,h⟩
 ·exact h
 ·exact dy.2 ⟨y,gv h,uR h⟩
theorem F0{pr:Lk->Bool}{k:aE}{y:Lk}(hy:l[k]?=aO y)(hp:pr y=aI)(ha:∀ x∈l.take k,pr x=aH):l.find? pr=aO y:=by
 obtain⟨h1,h2⟩:=aQ.1 hy;have e:l=l.take k++y::l.drop (k+1):=by rw[<- h2,<- cP h1,iK]
 rw[e,List.find?_append,nz.2 (fun x hx=>by simp[ha x hx])];simp[hp]
theorem S0{X:aw}{a b c d:az}{t:TypeId}(hH:H=X)(h:au (H+1) (X.alloc (aM #[a,b,c,d] t)) W):(W.cell? H=aO a/\W.cell? ⟨H,1,aN⟩=aO b/\W.cell? ⟨H,2,aN⟩=aO c/\W.cell? ⟨H,3,aN⟩=aO d) /\
  (W.frozen? H=aH/\W.frozen? ⟨H,1,aN⟩=aH/\W.frozen? ⟨H,2,aN⟩=aH/\W.frozen? ⟨H,3,aN⟩=aH):=by
 subst hH;exact iv (bC _) h
theorem MC(h:au n w W)(hH:n<=H)(a b c d:az):au n w ((((W.setCell H a).setCell ⟨H,1,aN⟩ b).setCell ⟨H,2,aN⟩ c).setCell ⟨H,3,aN⟩ d):=
 (((h.setCell hH _).setCell hH _).setCell hH _).setCell hH _
theorem ny(h:au n w W)(hH:n<=H)(a b:az):au n w ((W.setCell H a).setCell ⟨H,1,aN⟩ b):=
 (h.setCell hH _).setCell hH _
def N4(l:aB Lk)(x:Lk)(w:aw)(e:Ending)(w':aw):Prop:=
 ∃ y b,e=aK (aL #[ar #[aa ag y.o, aa ag y.f, aa ag y.t, aq y.a],aq b])/\Kp l x y b/\au w w w'
theorem Pj{pr:Lk->Bool}{p:aC aJ}{w0 w1:aw}{r:Ending}(hn:n=l.length)(hL:bI w p l)(hG0:Grown w w0)(h:oJ pr l w0 r w1):ax (Grown w w1)/\((r=aK (aa ag (-1))/\ax (∀ x∈l,pr x=aH))\/∃ (k:aE) (y:Lk) (b off:aE),k<n/\r=aK (aa ag k)/\ax (l.find? pr=aO y)/\p=aO ⟨b,off,aN⟩/\b<w.heap.size /\ w1.cell? ⟨b,off+k*4,aN⟩=aO (aa ag y.o)/\w1.cell? ⟨b,off+k*4+1,aN⟩=aO (aa ag y.f)/\w1.cell? ⟨b,off+k*4+2,aN⟩=aO (aa ag y.t)/\w1.cell? ⟨b,off+k*4+3,aN⟩=aO (aq y.a)):=by
 obtain⟨hG,⟨h1,h2⟩|⟨k,y,hk,hy,hr,hpy,ha⟩⟩:=oJ.parts hn h
 ·exact⟨hG0.trans hG,.inl ⟨h1,h2⟩⟩
 ·refine⟨hG0.trans hG,.inr ⟨k,y,?_⟩⟩
  rcases hL with h0|⟨b,off,rfl,hb,hc⟩
  ·rw[h0]at hy;simp at hy
  ·exact⟨b,off,hk,hr,F0 hy hpy ha,rfl,hb,bI.cells hc hb (hG0.trans hG).below hy⟩
theorem Ff(l:aB Lk)(x:Lk)(p:aC aJ)(cap:aE)(w:aw)(hL:bI w p l)(hn:l.length<4611686018427387904):ay aP 144 #[ah p l.length cap,ar #[aa ag x.o, aa ag x.f, aa ag x.t, aq x.a]] w (N4 l x w):=by
 have eg:∀ args w,(callFunc 185 args).run aP w=.ok (.enter 185 args) w:=enters_of func185 (by kernel_rfl) rfl;have hs:=tj (gq x) 185 #[aj (aO ⟨w.heap.size,0,aN⟩)] eg l p cap ((w.alloc (aM #[aa ag x.o, aa ag x.f, aa ag x.t, aq x.a] 117)).alloc (aM #[aa ag 0,aa ag 0,aa ag 0,aq aH] 117)) (hL.grown (((Grown.refl w).alloc _).alloc _)) hn
  (fun W y hG hy=>LB y x w W (by have:=hG.size;simp at this;omega) (fun i v hv=>by
    have hi:=sa hv;refine(hG.cell (p:=⟨w,i,aN⟩) (by simp;omega)).trans ?_;obtain rfl|rfl|rfl|rfl:i=0\/i=1\/i=2\/i=3:=by omega
    all_goals (simp[jY]at hv;subst hv;simp)))
 clear eg;have HL:ax (bI w p l):=hL;clear hL;obtain⟨n,eK⟩:=ee l.length
 have HN:ax (n=l.length):=eK;rw[<- eK]at hn hs ⊢;clear eK;go_enter func144,ntmps144;go_wp2_with (go_at_call 184;refine hs.mono ?_;clear hs;intro e w1 Vo;obtain⟨⟨r0,r1,r2,r3⟩,⟨f0,f1,f2,f3⟩⟩:=S0 (H:=w.heap.size+1) (by simp) (Vo.1.below.mono (by simp));rcases Pj HN.out HL.out (((Grown.refl w).alloc _).alloc _) Vo with⟨HG,⟨rfl,HA⟩|⟨k0,y0,b,off,A1,rfl,HA,rfl,hb,c0,c1,c2,c3⟩⟩<;>clear Vo)
 ·refine ba (v:=aL #[ar #[aa ag DR.o, aa ag DR.f, aa ag DR.t, aq DR.a],aq aH]) (by simp[results,results144,go_sem,DR,r0,r1,r2,r3]) rfl ?_
  exact⟨DR,aH,rfl,.inl ⟨rfl,rfl,ks.2 fun y hy=>by simp[HA.out y hy]⟩,MC HG.below (by omega) _ _ _ _⟩
 ·refine ba (v:=aL #[ar #[aa ag y0.o, aa ag y0.f, aa ag y0.t, aq y0.a],aq aI]) (by simp[results,results144,go_sem,r0,r1,r2,r3]) rfl ?_
  exact⟨y0,aI,rfl,.inr ⟨rfl,HA.out⟩,MC HG.below (by omega) _ _ _ _⟩
end Go.Proofs.YtjnkfelecopbjaaGreatDoor.LK
namespace Go.Proofs.YtjnkfelecopbjaaGreatDoor.LK
open Go.RowKit Go.Sort KM
def Kt(x:Lk):Prop:=(¬ rH x/\(x.o<0\/(¬ x.o<0/\(4<=x.o\/(¬ 4<=x.o/\(x.f<0\/(¬ x.f<0/\(x.t<=x.f\/(¬ x.t<=x.f/\1000<x.t)))))))))\/(rH x/\¬ x.o<0/\¬ 4<=x.o/\¬ x.f<0/\¬ x.t<=x.f/\¬ 1000<x.t)
theorem ways(x:Lk):Kt x:=by unfold Kt rH;omega
theorem Gp{l:aB Lk}{y:Lk}{k:aE}(hk:l.length=k+1)(hy:l[k]?=aO y):l.getLast?=aO y:=by rw[WI,hk];exact hy
theorem B9(l:aB Lk)(x:Lk)(p:aC aJ)(cap:aE)(w:aw)(hL:bI w p l)(hn:l.length<4611686018427387904):ay aP 219 #[ah p l.length cap,ar #[aa ag x.o, aa ag x.f, aa ag x.t, aq x.a]] w fun r w'=>r=aK (aa ag (kq l x))/\au w w w':=by
 have hm:=fun W (hB:au w.heap.size w W)=>Ff l x p cap W (hL.bB hB) hn
 have HW:ax (kq l x=if ¬ rH x then 3 else if kC l x=aI then 2 else if l.any (gq x)then 8 else 0):=rfl;rcases ways x with⟨hk,h⟩|⟨hk,h1,h2,h3,h4,h5⟩
 ·have HR:ax (kq l x=3):=by show _=_;rw[HW.out,aY hk]
  clear HW hk;rcases h with h1|⟨h1,h2|⟨h2,h3|⟨h3,h4|⟨h4,h5⟩⟩⟩⟩ <;>
  (go_enter func219,ntmps219
   go_wp2;go_ret;exact⟨gu HR.symm,((Grown.refl w).alloc _).below⟩)
 ·have HW':ax (kq l x=if kC l x=aI then 2 else if l.any (gq x)then 8 else 0):=by show _=_;rw[HW.out,aW (by simpa using hk)]
  clear HW hk;obtain⟨n,eK⟩:=ee l.length
  have HN:ax (n=l.length):=eK;rw[<- eK]at hn hm ⊢;by_cases ou:n=0
  ·subst ou
   have HB:ax (kC l x=aH):=by show _=_;rw[bX eK.symm];rfl
   clear hL eK;go_enter func219,ntmps219;go_wp2;go_quiet (fail);go_wp2_with (go_at_call 144;refine(hm _ (cG ((Grown.refl w).alloc _).below _)).mono ?_;clear hm;rintro r w1 ⟨y,b,rfl,hM,hB⟩;have HM:ax (l.any (gq x)=b):=hM.any;have lV:ax (au w w w1):=(cG ((Grown.refl w).alloc _).below _).trans (hB.mono (by simp));clear hM hB;cases b)
   ·go_ret
    exact⟨gu (by rw[HW'.out,HB.out,HM.out];rfl),lV.alloc lV.size _⟩
   ·go_ret
    exact⟨gu (by rw[HW'.out,HB.out,HM.out];rfl),lV.alloc lV.size _⟩
  ·obtain⟨k,hk⟩:∃ k,n=k+1:=⟨n-1,by omega⟩
   obtain⟨z,hz⟩:∃ z,l[k]?=aO z:=⟨_,aU (by omega)⟩
   have HB:ax (kC l x = !xy z x):=by show _=_;rw[kC,Gp (eK.symm.trans hk) hz]
   rcases hL with h0|⟨b,off,rfl,hb,hc⟩
   ·rw[h0]at hz;simp at hz
   obtain⟨c0,c1,c2,c3⟩:=bI.cells hc hb ((Grown.refl w).alloc (aM #[aa ag x.o, aa ag x.f, aa ag x.t, aq x.a] 117)).below hz;have hne:b≠w.heap.size:=by omega
   subst hk;have Nt:(((k+1:aE):aF)-1)=(k:aF):=by omega
   have VE:(k:aF)+1-1=(k:aF):=by omega
   have Ej:IntKind.i64.wrap ((k:aF)+1-1)=(k:aF):=by simp[IntKind.wrap,IntKind.bits,IntKind.signed];omega
   have j4:IntKind.i64.wrap (k:aF)=k:=by simp[IntKind.wrap,IntKind.bits,IntKind.signed];omega
   have Cn:(0:aF)<=(k:aF):=by omega
   have C5:(k:aF)<((k+1:aE):aF):=by omega
   have hk5:(k:aF)<(k:aF)+1:=by omega
   clear hc hz eK ou;go_enter func219,ntmps219;go_wp2;have hG1:Grown w (w.alloc (aM #[aa ag x.o, aa ag x.f, aa ag x.t, aq x.a] 117)):=(Grown.refl w).alloc _;go_region_held3 (fun w'=>w'.cell? w=aO (aa ag x.o)/\w'.cell? ⟨w,1,aN⟩=aO (aa ag x.f)/\w'.cell? ⟨w,2,aN⟩=aO (aa ag x.t)/\w'.cell? ⟨w,3,aN⟩=aO (aq x.a)/\w'.cell? ⟨b,off+k*4,aN⟩=aO (aa ag z.o)/\w'.cell? ⟨b,off+k*4+1,aN⟩=aO (aa ag z.f)/\w'.cell? ⟨b,off+k*4+2,aN⟩=aO (aa ag z.t)/\w'.cell? ⟨b,off+k*4+3,aN⟩=aO (aq z.a)) (go_keep) (first
    | (go_at_call 191;refine(JA z x _).mono ?_;rintro r w1 ⟨rfl,hG⟩;have Qq:Grown (w.alloc (aM #[aa ag x.o, aa ag x.f, aa ag x.t, aq x.a] 117)) w1:=((Grown.refl _).drewN 1).trans hG;obtain⟨⟨d0,d1,d2,d3⟩,_⟩:=iv (by simp) Qq.below;have e0:=(Qq.cell (p:=⟨b,off+k*4,aN⟩) (by simp;omega)).trans c0;have e1:=(Qq.cell (p:=⟨b,off+k*4+1,aN⟩) (by simp;omega)).trans c1;have e2:=(Qq.cell (p:=⟨b,off+k*4+2,aN⟩) (by simp;omega)).trans c2;have e3:=(Qq.cell (p:=⟨b,off+k*4+3,aN⟩) (by simp;omega)).trans c3;clear hG))
   have HG:ax (Grown w w1):=hG1.trans Qq;clear Qq hG1 e0 e1 e2 e3 c0 c1 c2 c3;cases hrz:xy z x with
   | false =>go_wp2;go_ret;exact⟨gu (by rw[HW'.out,HB.out,hrz];rfl),HG.below⟩
   | true=>
    go_wp2_with (go_at_call 144;refine(hm _ HG.below).mono ?_;clear hm;rintro r w2 ⟨y,bb,rfl,hM,hB⟩;have HM:ax (l.any (gq x)=bb):=hM.any;have lV:ax (au w w w2):=Below.bK HG.below hB;clear hM hB;cases bb)
    ·go_ret
     exact⟨gu (by rw[HW'.out,HB.out,hrz,HM.out];rfl),lV.alloc lV.size _⟩
    ·go_ret
     exact⟨gu (by rw[HW'.out,HB.out,hrz,HM.out];rfl),lV.alloc lV.size _⟩
def mX(l:aB Lk)(w:aw)(e:Ending)(w':aw):Prop:=
 e=aK (ar #[aa ag (eA l).1,aa ag (eA l).2])/\au w w w'
theorem pW(l:aB Lk)(p:aC aJ)(cap:aE)(w:aw)(hL:bI w p l)(hn:l.length<4611686018427387904)(ir:l.length<=cap):ay aP 183 #[ah p l.length cap] w (mX l w):=by
 have HL:ax (bI w p l):=hL;clear hL;obtain⟨n,eK⟩:=ee l.length
 have HN:ax (n=l.length):=eK;rw[<- eK]at hn ir ⊢;clear eK;by_cases KQ:40<n
 ·have hz:(40:aF)<(n:aF):=by omega
  have HF:ax (eA l=(5,0)):=by show _=_;rw[eA,aY (by rw[<- HN.out];exact KQ)]
  go_enter func183,ntmps183;go_wp2;refine ba (v:=ar #[aa ag 5,aa ag 0]) (by simp[results,results183,go_sem]) rfl ?_;exact⟨by rw[HF.out],((Grown.refl w).alloc _).below⟩
 ·have hz:¬ (40:aF)<(n:aF):=by omega
  have HF:ax (eA l=kz (l.take 0) (l.drop 0)):=by show _=_;rw[eA,aW (by rw[<- HN.out];exact KQ)];rfl
  go_enter func183,ntmps183;go_wp2;go_loopg [12] n (fun gg s12 wr=>∃ k:aE,k<=n/\n-k<=gg/\s12=aa ag k/\ax (au (w.heap.size+1) (w.alloc (aM #[aa ag 0,aa ag 0] 56)) wr)/\ax (eA l=kz (l.take k) (l.drop k)))
  case atStart=>exact⟨0,bF _,by omega,rfl,aR _ _,HF.out⟩
  case round=>
   obtain⟨k,hk,hg,rfl,BW,HE⟩:=hrel;by_cases gm:k<n
   ·have eN:(k:aF)<(n:aF):=by omega
    obtain⟨y,hy⟩:∃ y,l[k]?=aO y:=⟨_,aU (by have:=HN.out;omega)⟩
    have HS:ax (eA l=if kq (l.take k) y=0 then kz (l.take (k+1)) (l.drop (k+1))else(kq (l.take k) y,(k:aF))):=by show _=_;rw[HE.out,CO hy]
    have pJ:=eX BW.out;have acm:∀ W,au w w W->ay aP 219 #[ah p k cap,ar #[aa ag y.o, aa ag y.f, aa ag y.t, aq y.a]] W fun r w'=>r=aK (aa ag (kq (l.take k) y))/\au W.heap.size W w':=fun W hB=>by
     have h:=B9 (l.take k) y p cap W ((HL.bB hB).take k) (by rw[bL];omega)
     rwa [bL,eM (by have:=HN.out;omega)]at h
    rcases HL.out with h0|⟨b,off,rfl,hb,hc⟩
    ·rw[h0]at hy;simp at hy
    obtain⟨c0,c1,c2,c3⟩:=bI.cells hc hb pJ hy;have ot:b<wr.heap.size:=aZ hb pJ.size;have hne:b≠wr.heap.size:=by omega
    have abE:(k:aF)<=(cap:aF):=by omega
    have hkc:k<=cap:=by omega
    have IB:au wr wr (wr.alloc (aM #[aa ag y.o, aa ag y.f, aa ag y.t, aq y.a] 117)):=(aR _ _).alloc (aV _) _;have hwb:=acm _ (Below.bK pJ IB).drew;generalize kq (l.take k) y=r1 at hwb HS;clear hc hy acm;by_cases Cq:r1=0
    ·subst Cq
     go_wp2;go_region_held3 (fun w'=>w'.cell? wr=aO (aa ag y.o)/\w'.cell? ⟨wr,1,aN⟩=aO (aa ag y.f)/\w'.cell? ⟨wr,2,aN⟩=aO (aa ag y.t)/\w'.cell? ⟨wr,3,aN⟩=aO (aq y.a)) (go_keep) (first
      | (go_at_call 219;refine hwb.mono ?_;clear hwb;rintro rr w2 ⟨rfl,fC⟩;obtain⟨⟨d0,d1,d2,d3⟩,_⟩:=iv (by simp) ((aR _ (wr.alloc (aM #[aa ag y.o, aa ag y.f, aa ag y.t, aq y.a] 117))).drew.trans fC)))
     have HO:ax (au (w.heap.size+1) (w.alloc (aM #[aa ag 0,aa ag 0] 56)) w2):=oC BW.out (Below.bK IB.drew fC);clear fC IB pJ;go_wp2;go_roundg (n-(k+1))
     case measure=>omega
     case rel=>exact⟨k+1,by omega,by omega,by go_num,HO.out,by show _=_;simpa using HS.out⟩
    ·go_wp2
     go_region_held3 (fun w'=>w'.cell? wr=aO (aa ag y.o)/\w'.cell? ⟨wr,1,aN⟩=aO (aa ag y.f)/\w'.cell? ⟨wr,2,aN⟩=aO (aa ag y.t)/\w'.cell? ⟨wr,3,aN⟩=aO (aq y.a)) (go_keep) (first
      | (go_at_call 219;refine hwb.mono ?_;clear hwb;rintro rr w2 ⟨rfl,fC⟩;obtain⟨⟨d0,d1,d2,d3⟩,_⟩:=iv (by simp) ((aR _ (wr.alloc (aM #[aa ag y.o, aa ag y.f, aa ag y.t, aq y.a] 117))).drew.trans fC)))
     have hO:au (w.heap.size+1) (w.alloc (aM #[aa ag 0,aa ag 0] 56)) w2:=oC BW.out (Below.bK IB.drew fC);obtain⟨⟨r0,r1'⟩,⟨f0,f1⟩⟩:=nw (bC _) hO;have HO:ax (au w w w2):=eX hO;clear fC IB pJ hO;go_wp2;refine ba (v:=ar #[aa ag r1,aa ag k]) (by simp[results,results183,go_sem,r0,r1']) rfl ?_;exact⟨by rw[HS.out,aW Cq],ny HO.out (aV _) _ _⟩
   ·have eN:¬ (k:aF)<(n:aF):=by omega
    have HZ:ax (eA l=(0,0)):=by show _=_;rw[HE.out,EO (by have:=HN.out;omega)]
    obtain⟨⟨r0,r1⟩,⟨f0,f1⟩⟩:=nw (bC _) BW.out;have HO:ax (au w w wr):=eX BW.out;go_wp2;refine ba (v:=ar #[aa ag 0,aa ag 0]) (by simp[results,results183,go_sem,r0,r1]) rfl ?_;exact⟨by rw[HZ.out],ny HO.out (aV _) _ _⟩
end Go.Proofs.YtjnkfelecopbjaaGreatDoor.LK
namespace Go.Proofs.YtjnkfelecopbjaaGreatDoor.LK
open Go.RowKit Go.Sort KM
theorem Lw(e:Lk)(q:aF)(B:aE)(w:aw)(hB:B<w)(hc:w.cell? B=aO (aa ag q)):ay aP 182 #[ar #[aa ag e.o, aa ag e.f, aa ag e.t, aq e.a],aj (aO B)] w fun r w'=>r=aK (aq (decide (e.o=q)))/\Grown w w':=by
 have hne:B≠w.heap.size:=by omega
 have HE:ax ((e.o == q)=decide (e.o=q)):=by show _=_;rw[dN];simp
 go_enter func182,ntmps182;go_wp2;go_ret;exact⟨df HE.out,(Grown.refl w).alloc _⟩
def N1(l:aB Lk)(q:aF)(w:aw)(e:Ending)(w':aw):Prop:=
 ∃ g c,e=aK (ah (aO ⟨g,0,aN⟩) (fu l q).length c)/\w.heap.size<=g/\Own w' g c (fu l q)/\au w w w'
theorem Po(l:aB Lk)(q:aF)(p:aC aJ)(cap:aE)(w:aw)(hL:bI w p l)(iR:p=aN->cap=0)(hn:l.length*32<=140737488355328):ay aP 138 #[ah p l.length cap,aa ag q] w (N1 l q w):=by
 have eg:∀ args w,(callFunc 182 args).run aP w=.ok (.enter 182 args) w:=enters_of func182 (by kernel_rfl) rfl;have xY:∀ (g c:aE) (W:aw),Own W g c l->w.heap.size+1<=g->au (w.heap.size+1) (w.alloc (aM #[aa ag q] 3)) W ->
   ay aP 181 #[ah (aO g) l.length c,.func (.func 182) #[] #[aj (aO w)]] W fun e w'=>e=aK (ah (aO g) (fu l q).length c)/\Own w' g c (fu l q)/\au (w.heap.size+1) (w.alloc (aM #[aa ag q] 3)) w':=by
  intro g c W hO hg hB;have Ui:=hB.size;simp at Ui;refine(tS (fun e=>decide (e.o=q)) 182 #[aj (aO w)] eg l g c W hO (by omega) (fun W2 x hG hx=>Lw x q w W2 (by have:=hG.size;omega) ?_)).mono ?_
  ·rw[lZ hG (by show w.heap.size<W;omega) (by show w≠g;omega),hB.cell (p:=w) (by simp)]
   simp
  ·rintro e w' ⟨rfl,CY,hG⟩
   exact⟨rfl,CY,hB.grown hG (by simpa using Ui) (fun k hk=>by simp at hk;omega)⟩
 have HL:ax (bI w p l):=hL;clear hL eg;obtain⟨n,eK⟩:=ee l.length
 have HN:ax (n=l.length):=eK;rw[<- eK]at hn xY ⊢;clear eK;generalize Lg:(fu l q).length=rl at xY;have HR:ax ((fu l q).length=rl):=Lg;clear Lg;go_enter func138,ntmps138;go_wp2_with (at_builtin;refine mC _ rfl _ _ rfl (w.heap.size+1) rfl ?_ p n cap l rfl HN.out ?_ iR hn ?_ ?_)
 ·exact om (w.alloc (aM #[aa ag q] 3)) _ (by simp)
 ·exact(HL.grown ((Grown.refl w).alloc _)).grown ((Grown.refl _).alloc _)
 ·simp
 ·intro g c w1 hO hg hB
  have hB':au (w.heap.size+1) (w.alloc (aM #[aa ag q] 3)) w1:=((aR _ _).alloc (by simp) _).trans hB;have gW:=xY g c w1 hO hg hB';clear xY;have H1:ax (w.heap.size+1<=g):=hg;clear hO hB hg;go_wp2_with (go_at_call 181;refine gW.mono ?_;clear gW;rintro e w2 ⟨rfl,Nh,fC⟩);go_ret;exact⟨g,c,by rw[HR.out];rfl,by have:=H1.out;omega,Nh,eX fC⟩
end Go.Proofs.YtjnkfelecopbjaaGreatDoor.LK
namespace Go.Proofs.YtjnkfelecopbjaaGreatDoor.LK
open Go.RowKit Go.Sort KM
variable{W w:aw}{m:aB Lk}{v:az}{x:Lk}
theorem Rows.Zs{aS B o:aE}{u:az}{l:aB Lk}(h:Rows w aS v l)(hB:B<aS):Rows (w.setCell ⟨B,o,aN⟩ u) aS v l:=by refine⟨h.1,h.2.imp id ?_⟩;rintro⟨g,cap,eI,e,hg,hh,r⟩;exact⟨g,cap,eI,e,hg,by rw[cI _ _ _ _ (by show g≠B;omega)];exact hh,r⟩
def oK(y:Lk)(f t:aF)(B aS:aE)(v:az)(m:aB Lk)(w:aw)(e:Ending)(w':aw):Prop:=
 e=aK (aL #[])/\∃ v',w'.cell? B=aO v'/\w'.frozen? B=aH/\Rows w' aS v' (m++oQ y f t)/\au B w w'/\aS<=w'/\(∀ ad:aJ,ad.block<w->ad.block≠B->(∀ g,v.ownBlock=aO g->ad.block≠g)->w'.cell? ad=w.cell? ad)/\w.heap.size<=w'
theorem SN(y:Lk)(f t:aF)(B aS:aE)(v:az)(m:aB Lk)(w:aw)(hc:w.cell? B=aO v)(hf:w.frozen? B=aH)(hR:Rows w aS v m)(hb:aS<=w)(hB:B<aS)(hm:m.length<=1000):ay aP 192 #[ar #[aa ag y.o, aa ag y.f, aa ag y.t, aq y.a],aa ag f,aa ag t,aj (aO B)] w (oK y f t B aS v m w):=by
 have hne:B≠w.heap.size:=by omega
 by_cases qF:f<t
 ·have HK:ax (oQ y f t=[⟨y.o,f,t,y.a⟩]):=by show _=_;rw[oQ,aY qF]
  obtain⟨p,c,rfl,_,Ld,hpc⟩:=hR.form;have HR:ax (Rows w aS (ah p m.length c) m):=hR;clear hR;obtain⟨n,eK⟩:=ee m.length
  have HN:ax (n=m.length):=eK;rw[<- eK]at hc HR Ld hm;clear eK;have hG:Grown w (w.alloc (aM #[aa ag y.o, aa ag y.f, aa ag y.t, aq y.a] 117)):=(Grown.refl w).alloc _;have Ef:=(hG.cell (p:=B) (by show B<_;omega)).trans hc;go_enter func192,ntmps192;go_wp2_with (at_builtin;refine gS (w.alloc (aM #[aa ag y.o, aa ag y.f, aa ag y.t, aq y.a] 117)) ⟨y.o,f,t,y.a⟩ rfl _ _ rfl aS (ah p n c) m rfl (HR.below hG.below) (by have:=HN.out;omega) (by have:=hG.size;omega) (w.heap.size+1) (by simp) rfl ?_);intro v' w1 Ck fg hcell iL;have k1:=(fg.cell (p:=B) hB).trans Ef;have f1:=(fg.frozen (p:=B) hB).trans ((hG.below.frozen (p:=B) (by show B<_;omega)).trans hf);obtain⟨p',c',rfl,_,_,_⟩:=Ck.form;have FL:ax (Rows w1 aS (ah p' (m++[(⟨y.o,f,t,y.a⟩:Lk)]).length c') (m++[⟨y.o,f,t,y.a⟩])):=Ck;have lV:ax (au B w w1):=(hG.below.mono (by omega)).trans (fg.mono (by omega));have HS:ax (aS<=w1):=by have:=hG.size;have:=iL;show _<=_;omega
  have HC:ax (∀ ad:aJ,ad.block<w->ad.block≠B->(∀ g,(Value.slice p n c).ownBlock=aO g->ad.block≠g)->∀ u,(w1.setCell B u).cell? ad=w.cell? ad):=fun ad h1 h2 h3 u=>by
   have YO:(⟨B,0,aN⟩:aJ)≠ad:=fun e=>h2 (by rw[<- e])
   exact(cN (h:=YO) ..).trans ((hcell ad (by have:=hG.size;omega) h3).trans (hG.cell h1))
  have HZ:ax (w.heap.size<=w1):=by have:=hG.size;have:=iL;show _<=_;omega
  clear Ck fg iL Ef hG hc hcell;generalize (m++[⟨y.o,f,t,y.a⟩]:aB Lk).length=n' at *;go_wp2;go_end0;refine⟨rfl,ah p' n' c',?_,?_,?_,lV.setCell (aV _) _,by simp;exact HS.out,fun ad h1 h2 h3=>HC.out ad h1 h2 (fun g hg=>h3 g (by rw[<- HN.out];exact hg)) _,by simp;exact HZ.out⟩
  ·exact World.cell?_setCell_same (h:=k1) ..
  ·rw[jW];exact f1
  ·rw[HK.out];exact FL.Zs hB
 ·have HK:ax (oQ y f t=[]):=by show _=_;rw[oQ,aW qF]
  have HR:ax (Rows w aS v m):=hR;clear hR;go_enter func192,ntmps192;go_wp2;go_end0;refine⟨rfl,v,?_,?_,?_,?_,?_,?_,?_⟩
  ·rw[((Grown.refl w).alloc _).cell (p:=B) (by show B<_;omega)];exact hc
  ·exact(((Grown.refl w).alloc _).below.frozen (p:=B) (by show B<_;omega)).trans hf
  ·rw[HK.out,fj];exact HR.below ((Grown.refl w).alloc _).below
  ·exact((Grown.refl w).alloc _).below.mono (by omega)
  ·simp;omega
  ·intro ad h1 _ _
   exact((Grown.refl w).alloc _).cell h1
  ·simp
theorem GU{l:aB Lk}{k:aE}{y:Lk}(hy:l[k]?=aO y):eE (l.take (k+1)) x=eE (l.take k) x++nZ x y:=by rw[gi hy];simp[eE]
theorem PK(x y:Lk):(nZ x y).length<=2:=by
 unfold nZ oQ
 repeat' split
 all_goals simp
theorem BC(l:aB Lk)(x:Lk):(eE l x).length<=l.length*2:=by
 induction l with
 | nil=>simp[eE]
 | cons y r ih=>
  have:=PK x y;have e:eE (y::r) x=nZ x y++eE r x:=by simp[eE]
  rw[e,cJ,cj];omega
structure xj (x:Lk) (w W:aw) (v:az) (m:aB Lk):Prop where
 box:W.cell? ⟨↑w+1,0,aN⟩=aO v
 EW:W.frozen? ⟨↑w+1,0,aN⟩=aH
 rows:Rows W (w.heap.size+2) v m
 below:au (w.heap.size+1) (w.alloc (aM #[aa ag x.o, aa ag x.f, aa ag x.t, aq x.a] 117)) W
 size:w.heap.size+2<=W.heap.size
theorem xj.aS(h:xj x w W v m):au w w W:=eX h.below
theorem xj.xs(h:xj x w W v m):W.cell? w=aO (aa ag x.o)/\W.cell? ⟨w,1,aN⟩=aO (aa ag x.f)/\W.cell? ⟨w,2,aN⟩=aO (aa ag x.t)/\W.cell? ⟨w,3,aN⟩=aO (aq x.a):=
 (iv (bC _) h.below).1
theorem xj.start(x:Lk)(w:aw):xj x w ((w.alloc (aM #[aa ag x.o, aa ag x.f, aa ag x.t, aq x.a] 117)).alloc (aM #[ah aN 0 0] 96)) (ah aN 0 0) []:=by
 have e:w.heap.size+1=(w.alloc (aM #[aa ag x.o, aa ag x.f, aa ag x.t, aq x.a] 117)).heap.size:=by simp
 refine⟨?_,?_,Rows.nil _ _,((aR _ _).alloc (by simp) _),by simp⟩
 ·rw[e];simp
 ·rw[e];simp
theorem xj.alloc(h:xj x w W v m)(o:Obj):xj x w (W.alloc o) v m:=by have hG:Grown W (W.alloc o):=(Grown.refl W).alloc o;have hs:=h.size;exact⟨(hG.cell (p:=⟨↑w+1,0,aN⟩) (by show w.heap.size+1<_;omega)).trans h.box,(hG.below.frozen (p:=⟨↑w+1,0,aN⟩) (by show w.heap.size+1<_;omega)).trans h.EW,h.rows.below hG.below,NR h.below,by have:=hG.size;omega⟩
theorem xj.keep(h:xj x w W v m)(y:Lk)(f t:aF)(hm:m.length<=1000):ay aP 192 #[ar #[aa ag y.o, aa ag y.f, aa ag y.t, aq y.a],aa ag f,aa ag t,aj (aO ⟨↑w+1,0,aN⟩)] W fun e W'=>e=aK (aL #[])/\∃ v',xj x w W' v' (m++oQ y f t) /\
   ∀ ad:aJ,ad.block<W->ad.block≠w.heap.size+1->(∀ g,v.ownBlock=aO g->ad.block≠g)->W'.cell? ad=W.cell? ad:=by
 refine(SN y f t (w.heap.size+1) (w.heap.size+2) v m W h.box h.EW h.rows h.size (by omega) hm).mono ?_;rintro e W' ⟨rfl,v',h1,h2,h3,h4,h5,h6,_⟩;exact⟨rfl,v',⟨h1,h2,h3,h.below.trans h4,h5⟩,h6⟩
def rY(l:aB Lk)(x:Lk)(w:aw)(e:Ending)(w':aw):Prop:=
 ∃ v,e=aK v/\Rows w' w v (eE l x)/\au w w w'
theorem qp(l:aB Lk)(x:Lk)(p:aC aJ)(cap:aE)(w:aw)(hL:bI w p l)(hn:l.length<=40):ay aP 146 #[ah p l.length cap,ar #[aa ag x.o, aa ag x.f, aa ag x.t, aq x.a]] w (rY l x w):=by
 have HL:ax (bI w p l):=hL;clear hL;obtain⟨n,eK⟩:=ee l.length
 have HN:ax (n=l.length):=eK;rw[<- eK]at hn ⊢;clear eK;have QJ:ax (∀ k,(eE (l.take k) x).length<=80):=fun k=>by
  have h1:=BC (l.take k) x;have h2:(l.take k).length<=l.length:=by rw[bL];omega
  have h3:=HN.out;omega
 go_enter func146,ntmps146;go_wp2;go_loopg [12] n (fun gg s12 wr=>∃ k:aE,k<=n/\n-k<=gg/\s12=aa ag k/\∃ v,ax (xj x w wr v (eE (l.take k) x)))
 case atStart=>exact⟨0,bF _,by omega,rfl,ah aN 0 0,(xj.start x w:xj _ _ _ _ [])⟩
 case round=>
  obtain⟨k,hk,hg,rfl,v,I⟩:=hrel;obtain⟨d0,d1,d2,d3⟩:=I.xs;by_cases gm:k<n
  ·have eN:(k:aF)<(n:aF):=by omega
   obtain⟨y,hy⟩:∃ y,l[k]?=aO y:=⟨_,aU (by have:=HN.out;omega)⟩
   have HS:ax (eE (l.take (k+1)) x=eE (l.take k) x++nZ x y):=GU hy;rcases HL.out with h0|⟨b,off,rfl,hb,hc⟩
   ·rw[h0]at hy;simp at hy
   obtain⟨c0,c1,c2,c3⟩:=bI.cells hc hb I.aS hy;have ot:b<wr.heap.size:=aZ hb I.aS.size;have hne:b≠wr.heap.size:=by omega
   have Sm:w.heap.size≠wr.heap.size:=by have:=I.size;omega
   have yF:w.heap.size<wr.heap.size:=by have:=I.size;omega
   have I1:ax (xj x w (wr.alloc (aM #[aa ag y.o, aa ag y.f, aa ag y.t, aq y.a] 117)) v (eE (l.take k) x)):=I.alloc _;have gW:=fun f t=>I1.keep y f t (by have:=QJ.out k;omega)
   clear hc hy;by_cases ho:y.o=x.o
   ·have HP:ax (nZ x y=oQ y y.f (min y.t x.f)++oQ y (max y.f x.t) y.t):=by show _=_;rw[nZ,aW (by simpa using ho)]
    have gG:∀ g,v.ownBlock=aO g->wr.heap.size≠g:=fun g hg=>by have:=(gQ I.rows g hg).2;omega
    have VO:wr.heap.size≠w.heap.size+1:=by have:=I.size;omega
    have M0:=QJ.out (k+1);rw[HS.out,HP.out,<- gl,cJ]at M0;have abF:(eE (l.take k) x++oQ y y.f (min y.t x.f)).length<=1000:=by omega
    clear M0;obtain⟨yo,yf,yt,ya⟩:=y;simp only at *;subst ho;go_wp2_with (first
     | ((first|go_at_call 192|go_at_fn 192);refine(gW _ _).mono ?_;clear gW;rintro e w2 ⟨rfl,v2,hI2,xW⟩;obtain⟨a0,a1,a2,a3⟩:=hI2.xs;have b0:=(xW ⟨wr,0,aN⟩ (by simp) VO gG).trans (by simp:_=aO (Value.int .i64 x.o));have b1:=(xW ⟨wr,1,aN⟩ (by simp) VO gG).trans (by simp:_=aO (Value.int .i64 yf));have b2:=(xW ⟨wr,2,aN⟩ (by simp) VO gG).trans (by simp:_=aO (Value.int .i64 yt));have b3:=(xW ⟨wr,3,aN⟩ (by simp) VO gG).trans (by simp:_=aO (Value.bool ya));have K1:=fun f t=>hI2.keep ⟨x.o,yf,yt,ya⟩ f t abF;clear hI2 xW;simp only at K1)
     | ((first|go_at_call 192|go_at_fn 192);refine(K1 _ _).mono ?_;clear K1;rintro e w3 ⟨rfl,v3,hI3,_⟩))
    go_roundg (n-(k+1))
    case measure=>omega
    case rel=>exact⟨k+1,by omega,by omega,by go_num,v3,by rw[HS.out,HP.out,<- gl];exact hI3⟩
   ·have HP:ax (nZ x y=oQ y y.f y.t):=by show _=_;rw[nZ,aY ho]
    have Cp:(y.o != x.o)=aI:=bne_iff_ne.2 ho;go_wp2_with ((first|go_at_call 192|go_at_fn 192);refine(gW _ _).mono ?_;clear gW;rintro e w2 ⟨rfl,v2,hI2,_⟩);go_roundg (n-(k+1))
    case measure=>omega
    case rel=>exact⟨k+1,by omega,by omega,by go_num,v2,by rw[HS.out,HP.out];exact hI2⟩
  ·have eN:¬ (k:aF)<(n:aF):=by omega
   obtain⟨pv,cv,rfl,_,_,_⟩:=I.rows.form;have Vx:=I.box;have HW:ax (eE (l.take k) x=eE l x):=by show _=_;rw[cz (by have:=HN.out;omega)]
   rw[HW.out]at Vx I;generalize (eE l x).length=nn at Vx I;go_wp2;go_ret;exact⟨_,rfl,I.rows.mono (by omega),I.aS⟩
end Go.Proofs.YtjnkfelecopbjaaGreatDoor.LK
namespace Go.Proofs.YtjnkfelecopbjaaGreatDoor.LK
open Go.RowKit Go.Sort KM
variable{j:aE}{l:aB Lk}{w:aw}{z:Lk}
theorem Rows.acF{g c aS:aE}(h:Own w g c l)(hb:aS<=g):Rows w aS (ah (aO g) l.length c) l:=by
 obtain⟨eI,hh,hs,hl,hm,hc⟩:=h;refine⟨(iY l),.inr ⟨g,c,eI,rfl,hb,hh,hl,hm,hs,?_⟩⟩;apply dz;intro k;rw[dm];by_cases hk:k<l.length*4
 ·rw[aY hk]
  obtain⟨u,hu⟩:∃ u,(l.flatMap jY)[k]?=aO u:=⟨_,aU (by rw[iY];exact hk)⟩
  obtain⟨j,e,i,h1,h2,rfl⟩:=sU hu;rw[hu,gJ];exact hc j e h1 i u h2
 ·rw[aW hk,Cx (by rw[iY];omega)]
theorem Own.agT{g c:aE}(h:Own w g c l)(hz:l[j]?=aO z)(t:aF):Own (w.setCell ⟨g,j*4+2,aN⟩ (aa ag t)) g c (l.set j { z with t:=t }):=by
 obtain⟨eI,hh,hs,hl,hm,hc⟩:=h;have hj:=(aQ.1 hz).1;refine⟨eI.setIfInBounds (j*4+2) (aa ag t),heap_set hh _ _,by simpa using hs,by simpa using hl,hm,fun k e he i v hv=>?_⟩;have hi:=sa hv;rw[eR]at he;rw[fE];by_cases hk:j=k
 ·subst hk
  rw[aY rfl,aY hj]at he;obtain rfl:{ z with t:=t }=e:=by simpa using he
  obtain rfl|rfl|rfl|rfl:i=0\/i=1\/i=2\/i=3:=by omega
  ·rw[aW (by omega)];exact hc j z hz 0 v hv
  ·rw[aW (by omega)];exact hc j z hz 1 v hv
  ·rw[aY rfl,aY (by omega)];exact hv
  ·rw[aW (by omega)];exact hc j z hz 3 v hv
 ·rw[aW hk]at he
  rw[aW (by omega)];exact hc k e he i v hv
theorem P0{aS:aE}{v:az}(h:Rows w aS v l)(hl:l.length=j+1)(hz:l[j]?=aO z):∃ g c,v=ah (aO ⟨g,0,aN⟩) (j+1) c/\aS<=g/\g<w.heap.size/\Own w g c l:=by obtain⟨g,c,e,hg,ho⟩:=Own.pS h (by rintro rfl;obtain⟨_,⟨_,h2⟩|⟨g,cap,eI,yE,_⟩⟩:=h<;>first|omega|cases yE) rfl;exact⟨g,c,by rw[e,hl],hg,ho.lt,ho⟩
theorem LL{out:aB Lk}(hl:out.length=j+1)(hz:out[j]?=aO z)(x:Lk):lI out x=if xy z x then out++[x]else out.set j { z with t:=x.t }:=by unfold lI;rw[Gp hl hz,hl];rfl
theorem PA(out:aB Lk)(x:Lk):(lI out x).length<=out.length+1:=by
 unfold lI;split
 ·simp
 ·split
  ·simp
  ·simp
theorem RD(l:aB Lk):∀ out:aB Lk,(l.foldl lI out).length<=out.length+l.length:=by
 induction l with
 | nil=>intro out;simp
 | cons x r ih =>intro out;have h1:=ih (lI out x);have h2:=PA out x;rw[uS,cj];omega
theorem OK{k:aE}{y:Lk}(hy:l[k]?=aO y):(l.take (k+1)).foldl lI []=lI ((l.take k).foldl lI []) y:=by rw[gi hy,Km];rfl
def QR(m:aB Lk)(g:aE)(w:aw)(e:Ending)(w':aw):Prop:=
 ∃ v m',e=aK v/\m'.Perm m/\m'.Pairwise (fun a b=>¬ vC b a<0)/\Rows w' w v (fH m')/\w.grownBy w' (aO g)
theorem Lq(m:aB Lk)(g cap:aE)(w:aw)(hO:Own w g cap m)(hn:m.length<=1000):ay aP 145 #[ah (aO g) m.length cap] w (QR m g w):=by
 have hs:=zG m g cap w hO (by omega);have Sa:=hO.lt;clear hO;obtain⟨n,eK⟩:=ee m.length
 have HN:ax (n=m.length):=eK;rw[<- eK]at hn hs ⊢;clear eK;go_enter func145,ntmps145;go_wp2_with (go_at_call 187;refine hs.mono ?_;clear hs;rintro e w1 ⟨rfl,l',hp,hpw,hL,hG⟩;have HP:ax (l'.Perm m):=hp;have HS:ax (l'.Pairwise (fun a b=>¬ vC b a<0)):=hpw;have HL:ax (bI w1 (aO ⟨g,0,aN⟩) l'):=hL;have HG:ax (w.grownBy w1 (aO g)):=hG;clear hp hpw hL hG);have WA:ax (l'.length=n):=by show _=_;rw[HP.length_eq,HN.out]
 have aey:ax (∀ k,((l'.take k).foldl lI []).length<=1000):=fun k=>by
  have h1:=RD (l'.take k) [];have h2:(l'.take k).length<=l'.length:=by rw[bL];omega
  have h3:=WA.out;simp only[ib]at h1;omega
 go_loopg [3,11] n (fun gg s3 s11 wr=>∃ k:aE,k<=n/\n-k<=gg/\s11=aa ag k/\ax (Rows wr w1 s3 ((l'.take k).foldl lI [])/\au w1 w1 wr))
 case atStart=>exact⟨0,bF _,by omega,rfl,(⟨Rows.nil _ _,aR _ _⟩:Rows _ _ _ []/\_)⟩
 case round=>
  obtain⟨k,hk,hg,rfl,I⟩:=hrel;by_cases gm:k<n
  ·have eN:(k:aF)<(n:aF):=by omega
   obtain⟨y,hy⟩:∃ y,l'[k]?=aO y:=⟨_,aU (by have:=WA.out;omega)⟩
   have HF:ax ((l'.take (k+1)).foldl lI []=lI ((l'.take k).foldl lI []) y):=OK hy;have hlen:=aey.out k;rcases HL.out with h0|⟨b,off,F7,hb,hc⟩
   ·rw[h0]at hy;simp at hy
   obtain⟨rfl,rfl⟩:g=b/\0=off:=by simpa using F7
   clear F7;obtain⟨c0,c1,c2,c3⟩:=bI.cells hc hb I.2 hy;simp only[dD]at c0 c1 c2 c3;have iL:=I.2.size;have ot:g<wr.heap.size:=by omega
   have hne:g≠wr.heap.size:=by omega
   have hX:au wr wr (wr.alloc (aM #[aa ag y.o, aa ag y.f, aa ag y.t, aq y.a] 117)):=((Grown.refl wr).alloc _).below;clear hc hy;generalize hout:(l'.take k).foldl lI []=out at I HF hlen;clear hout;by_cases h0:out.length=0
   ·obtain⟨p,c,hv,_,_,_⟩:=I.1.form
    rw[h0]at hv;subst hv;have HO:ax (out=[]):=bX h0;go_wp2;go_quiet (fail);go_wp2_with (at_builtin;refine gS _ y rfl _ _ rfl w1 (ah p 0 c) out rfl (I.1.below (cG hX _)) (by omega) (by simp;omega) (wr.heap.size+1) (by simp) rfl ?_);intro v' w2 hR2 fC _ aci;have HI:ax (Rows w2 w1 v' (lI out y)/\au w1 w1 w2):=⟨by have:=HO.out;subst this;exact hR2,(I.2.trans ((cG hX _).mono iL)).trans fC⟩
    clear hR2 fC aci hX;go_wp2;go_roundg (n-(k+1))
    case measure=>omega
    case rel=>exact⟨k+1,by omega,by omega,by go_num,by rw[HF.out];exact HI⟩
   ·obtain⟨j,hj⟩:∃ j,out.length=j+1:=⟨out.length-1,by omega⟩
    obtain⟨z,hz⟩:∃ z,out[j]?=aO z:=⟨_,aU (by omega)⟩
    obtain⟨gb,c,rfl,R9,afH,hO⟩:=P0 I.1 hj hz;have HM:ax (lI out y=if xy z y then out++[y]else out.set j { z with t:=y.t }):=LL hj hz y;have WY:=hO.below hX afH;obtain⟨⟨z0,z1,z2,z3⟩,_⟩:=WY.cells hz;have alg:gb≠wr.heap.size:=by omega
    have Nt:(((j+1:aE):aF)-1)=(j:aF):=by omega
    have VE:(j:aF)+1-1=(j:aF):=by omega
    have Ej:IntKind.i64.wrap ((j:aF)+1-1)=(j:aF):=by simp[IntKind.wrap,IntKind.bits,IntKind.signed];omega
    have j4:IntKind.i64.wrap (j:aF)=j:=by simp[IntKind.wrap,IntKind.bits,IntKind.signed];omega
    have Cn:(0:aF)<=(j:aF):=by omega
    have C5:(j:aF)<((j+1:aE):aF):=by omega
    have hk5:(j:aF)<(j:aF)+1:=by omega
    have HO:ax (Own (wr.alloc (aM #[aa ag y.o, aa ag y.f, aa ag y.t, aq y.a] 117)) gb c out):=WY;have HZ:ax (out[j]?=aO z):=hz;have HJ:ax (out.length=j+1):=hj;clear hO WY hz hj h0;go_wp2;go_region_held3 (fun w'=>w'.cell? wr=aO (aa ag y.o)/\w'.cell? ⟨wr,1,aN⟩=aO (aa ag y.f)/\w'.cell? ⟨wr,2,aN⟩=aO (aa ag y.t)/\w'.cell? ⟨wr,3,aN⟩=aO (aq y.a)/\w'.cell? ⟨gb,j*4,aN⟩=aO (aa ag z.o)/\w'.cell? ⟨gb,j*4+1,aN⟩=aO (aa ag z.f)/\w'.cell? ⟨gb,j*4+2,aN⟩=aO (aa ag z.t)/\w'.cell? ⟨gb,j*4+3,aN⟩=aO (aq z.a)) (go_keep) (first
     | (go_at_call 191;refine(JA z y _).mono ?_;rintro r w2 ⟨rfl,hG⟩;have Qq:Grown (wr.alloc (aM #[aa ag y.o, aa ag y.f, aa ag y.t, aq y.a] 117)) w2:=((Grown.refl _).drewN 1).trans hG;obtain⟨⟨d0,d1,d2,d3⟩,_⟩:=iv (by simp) Qq.below;have Ue:ax (Own w2 gb c out):=HO.grown Qq;obtain⟨⟨e0,e1,e2,e3⟩,⟨f0,f1,f2,f3⟩⟩:=Ue.cells HZ.out;clear hG))
    have nN:ax (au wr wr w2):=hX.trans (Qq.below.mono (by simp));have aci:=nN.size;have akM:gb<w2.heap.size:=by omega
    clear Qq hX z0 z1 z2 z3 c0 c1 c2 c3;cases hrz:xy z y with
    | true=>
     go_wp2_with (at_builtin;refine gS w2 y rfl _ _ rfl w1 (ah (aO gb) (j+1) c) out rfl (I.1.below nN.out) (by have:=HJ.out;omega) (by omega) w2.heap.size rfl rfl ?_);intro v' w3 yC eG _ SA;have HI:ax (Rows w3 w1 v' (lI out y)/\au w1 w1 w3):=⟨by rw[HM.out,hrz];exact yC,(I.2.trans (nN.mono iL)).trans eG⟩
     clear yC eG SA;go_wp2;go_roundg (n-(k+1))
     case measure=>omega
     case rel=>exact⟨k+1,by omega,by omega,by go_num,by rw[HF.out];exact HI⟩
    | false=>
     have HI:ax (Rows (w2.setCell ⟨gb,j*4+2,aN⟩ (aa ag y.t)) w1 (ah (aO gb) (j+1) c) (lI out y)/\au w1 w1 (w2.setCell ⟨gb,j*4+2,aN⟩ (aa ag y.t))):=by refine⟨?_,(I.2.trans (nN.mono iL)).setCell R9 _⟩;have h1:=Rows.acF (Ue.agT HZ.out y.t) R9;rw[fW,HJ.out]at h1;rw[HM.out,hrz];exact h1
     go_wp2;go_roundg (n-(k+1))
     case measure=>omega
     case rel=>exact⟨k+1,by omega,by omega,by go_num,by rw[HF.out];exact HI⟩
  ·have eN:¬ (k:aF)<(n:aF):=by omega
   have hI:=I.out;rw[cz (by have:=WA.out;omega)]at hI;have HI:ax _:=hI;clear hI I;go_wp2;go_ret;exact⟨_,l',rfl,HP.out,HS.imp (fun h=>by omega),HI.1.mono HG.size,jB HG.out HI.2⟩
end Go.Proofs.YtjnkfelecopbjaaGreatDoor.LK
namespace Go.Proofs.YtjnkfelecopbjaaGreatDoor.LK
open Go.RowKit Go.Sort KM
def mA(free:Bool)(l:aB Lk)(x:Lk)(w:aw)(e:Ending)(w':aw):Prop:=
 ∃ v err m,e=aK (aL #[v,aa ag err])/\Rows w' w v m/\nP free l x err m/\au w w w'
def yI(free:Bool)(l:aB Lk)(x:Lk)(w:aw)(e:Ending)(w':aw):Prop:=
 ∃ v err m,e=aK (aL #[v,aa ag err])/\Rows w' w v m/\au w w w' /\
  ((err=13/\m=[]/\free=aH/\l.any (gq x)=aI)\/(err=0/\(free=aI\/l.any (gq x)=aH)/\jl m/\nO free l x m))
def Cu(w:aw)(B1 B2:aE)(p:aC aJ)(n cap:aE)(x:Lk):Prop:=
 w.cell? B1=aO (ah p n cap)/\(w.cell? B2=aO (aa ag x.o)/\w.cell? ⟨B2,1,aN⟩=aO (aa ag x.f)/\w.cell? ⟨B2,2,aN⟩=aO (aa ag x.t)/\w.cell? ⟨B2,3,aN⟩=aO (aq x.a))/\B1<w/\B2<w
theorem Cu.bB{w w':aw}{B1 B2 n cap:aE}{p:aC aJ}{x:Lk}(h:Cu w B1 B2 p n cap x)(hB:au w w w'):Cu w' B1 B2 p n cap x:=by obtain⟨h1,⟨h2,h3,h4,h5⟩,h6,h7⟩:=h;have hs:=hB.size;exact⟨(hB.cell (p:=B1) h6).trans h1,⟨(hB.cell (p:=B2) h7).trans h2,(hB.cell (p:=⟨B2,1,aN⟩) h7).trans h3,(hB.cell (p:=⟨B2,2,aN⟩) h7).trans h4,(hB.cell (p:=⟨B2,3,aN⟩) h7).trans h5⟩,by omega,by omega⟩
theorem wJ(l:aB Lk)(x:Lk)(p:aC aJ)(cap B1 B2:aE)(w:aw)(hL:bI w p l)(h0:jq l x=0)(hb:Cu w B1 B2 p l.length cap x):ay aP 147 #[aj (aO B1),aj (aO B2)] w (yI aI l x w):=by
 have hw:=fun W (hB:au w.heap.size w W)=>qp l x p cap W (hL.bB hB) (oA.1 h0).1.1
 have HS:ax (jl (eE l x)/\nO aI l x (eE l x)):=free_spec h0;obtain⟨c0,⟨c1,c2,c3,c4⟩,si,uX⟩:=hb;generalize l.length=n at hw c0;clear hL h0;go_enter func147,ntmps147;go_wp2_with (go_at_call 146;refine(hw _ (aR _ _)).mono ?_;clear hw;rintro e w1 ⟨v,rfl,hR,hB⟩;have HR:ax (Rows w1 w v (eE l x)):=hR;have HB:ax (au w w w1):=hB;clear hR hB);go_ret2;exact⟨v,0,eE l x,rfl,HR.out,HB.out,.inr ⟨rfl,.inl rfl,HS.out⟩⟩
theorem Fx{ops:Array Oper}{o:Oper}{a:Act}{K:Act->aw->Prop}{Q:Exit->Act->aw->Prop}{E:Prop}{X:aw}(ly:o.guard=aN)(s x:Operand)(ho:o.op=.call { callee:=.builtin .append,args:=#[s,x],argTypes:=#[96,96] })(aS:aE)(v:az)(l:aB Lk)(hs:a.eval s=v)(jF:Rows X aS v l)(hlen:l.length<=1000)(eD:aS<=X)(H:aE)(y:Lk)(hx:a.eval x=ah (aO H) 1 1)(hL:∀ j u,(jY y)[j]?=aO u->X.cell? ((⟨H,0,aN⟩:aJ).add j)=aO u)(h:∀ v' w',Rows w' aS v' (l++[y])->au aS X w'->K (a.put o.dst v') w'):if Region.wanted o (yielded ops a.tmps)=aI then Oper.wp aP o a X K Q else E:=by
 have hw:Region.wanted o (yielded ops a.tmps)=aI:=by simp[Region.wanted,ly]
 rw[aY hw];obtain⟨i0,hi,ou,mL,mh⟩:=Nz;refine wp_append_own X s x 96 ho aS 117 i0 _ 4 32 underlying96 hi ou mL mh rfl (by decide) v l.length (l.flatMap jY) hs jF ⟨H,0,aN⟩ 1 1 (jY y) hx rfl hL (fun u hu=>kA (t:=[y]) (by simpa using hu)) (by unfold maxLen;omega) (by omega) eD ?_;intro v' w' gG hg _;exact h v' w' (by simpa[Rows]using gG) ((aR aS X).grown hg eD (fun j hj=>(gQ jF j hj).1))
theorem NF{X:aw}{H:aE}{y:Lk}(h:X.cell? H=aO (aa ag y.o)/\X.cell? ⟨H,1,aN⟩=aO (aa ag y.f)/\X.cell? ⟨H,2,aN⟩=aO (aa ag y.t)/\X.cell? ⟨H,3,aN⟩=aO (aq y.a)):∀ j u,(jY y)[j]?=aO u->X.cell? ((⟨H,0,aN⟩:aJ).add j)=aO u:=by
 intro j u hu;have hj:=sa hu;rw[dG,dD];obtain rfl|rfl|rfl|rfl:j=0\/j=1\/j=2\/j=3:=by omega
 ·obtain rfl:Value.int .i64 y.o=u:=by simpa[jY]using hu
  exact h.1
 ·obtain rfl:Value.int .i64 y.f=u:=by simpa[jY]using hu
  exact h.2.1
 ·obtain rfl:Value.int .i64 y.t=u:=by simpa[jY]using hu
  exact h.2.2.1
 ·obtain rfl:Value.bool y.a=u:=by simpa[jY]using hu
  exact h.2.2.2
theorem P1{w:aw}{aS:aE}{v:az}{l:aB Lk}(h:Rows w aS v l)(hl:l≠[]):∃ g c,v=ah (aO ⟨g,0,aN⟩) l.length c/\aS<=g/\Own w g c l:=by
 obtain⟨g,c,e,hg,ho⟩:=Own.pS h (by
  rintro rfl;obtain⟨_,⟨_,h2⟩|⟨g,cap,eI,yE,_⟩⟩:=h
  ·exact hl (bX h2)
  ·cases yE) rfl
 exact⟨g,c,e,hg,ho⟩
theorem Lr(m:aB Lk)(aS:aE)(v:az)(w:aw)(hR:Rows w aS v m)(hm:m≠[])(hn:m.length<=1000)(hb:aS<=w):ay aP 145 #[v] w fun e w'=>∃ v' m',e=aK v'/\m'.Perm m/\m'.Pairwise (fun a b=>¬ vC b a<0)/\Rows w' aS v' (fH m')/\au aS w w':=by obtain⟨g,c,rfl,hg,hO⟩:=P1 hR hm;refine(Lq m g c w hO hn).mono ?_;rintro e w' ⟨v',m',rfl,h1,h2,h3,h4⟩;exact⟨v',m',rfl,h1,h2,h3.mono hb,(aR aS w).grown h4 hb (fun k hk=>by simp at hk;omega)⟩
theorem P8(l:aB Lk)(x:Lk)(p:aC aJ)(cap B1 B2:aE)(w:aw)(hL:bI w p l)(h0:jq l x=0)(hb:Cu w B1 B2 p l.length cap x):ay aP 143 #[aj (aO B1),aj (aO B2)] w (yI aH l x w):=by
 have KQ:=(oA.1 h0).1.1;have hm:=fun W (hB:au w.heap.size w W)=>Ff l x p cap W (hL.bB hB) (by omega)
 have hw:=fun W (hB:au w.heap.size w W)=>qp l x p cap W (hL.bB hB) KQ
 have HZ:ax (jq l x=0):=h0;have XD:ax (Cu w B1 B2 p l.length cap x):=hb;obtain⟨c0,⟨c1,c2,c3,c4⟩,si,uX⟩:=hb;generalize l.length=n at hw hm c0 XD;clear hL h0;go_enter func143,ntmps143;go_wp2_with (go_at_call 144;refine(hm _ (aR _ _)).mono ?_;clear hm;rintro r w1 ⟨y,b,rfl,hM,hB⟩;have HM:ax (l.any (gq x)=b):=hM.any;have lV:ax (au w w w1):=hB;obtain⟨d0,⟨d1,d2,d3,d4⟩,Z4,sY⟩:=XD.bB hB;clear hM hB;cases b)
 ·have rQ:au w w (w1.alloc (aM #[aa ag y.o, aa ag y.f, aa ag y.t, aq y.a] 117)):=lV.alloc lV.size _
  obtain⟨d0,⟨d1,d2,d3,d4⟩,Z4,sY⟩:=XD.bB rQ;generalize w1.alloc (aM #[aa ag y.o, aa ag y.f, aa ag y.t, aq y.a] 117)=W0 at *;have HT:ax (∀ m:aB Lk,m.Perm (eE l x++[x])->m.Pairwise (fun a b=>¬ vC b a<0)->jl (fH m)/\nO aH l x (fH m)):=fun m hp hs=>P9 HZ.out HM.out hp hs
  have M0:ax ((eE l x).length<=80):=by have:=BC l x;show _<=_;omega
  clear HZ XD c0 c1 c2 c3 c4 KQ;have ph:=rQ.size;go_region_law (first
   | (refine Fx rfl _ _ rfl W0 v (eE l x) (by first|(simp[Act.eval];done)|fail) (hR.below ((Grown.refl w2).alloc _).below) (by have:=M0.out;omega) (by simp;omega) w2.heap.size x (by first|(simp[Act.eval];done)|fail) (lK w2 x _ rfl) ?_;clear vh;intro v3 w3 yC eG;have Sv:=eG.size;(try simp at Sv);have Iy:au W0 W0 w3:=vg.trans (Below.trans (by first|exact((Grown.refl w2).alloc _).below.mono (by omega)|exact aR _ _) eG);clear eG)
   | (refine Fx rfl _ _ rfl W0 v (eE l x) (by first|(simp[Act.eval];done)|fail) hR (by have:=M0.out;omega) (by omega) W0.heap.size x (by first|(simp[Act.eval];done)|fail) (NF hq) ?_;clear vh;intro v3 w3 yC eG;have Sv:=eG.size;(try simp at Sv);have Iy:au W0 W0 w3:=vg.trans (Below.trans (by first|exact((Grown.refl w2).alloc _).below.mono (by omega)|exact aR _ _) eG);clear eG)
   | (go_simp;go_at_call 146;refine(hw _ rQ.drew).mono ?_;clear hw;rintro e w2 ⟨v,rfl,hR,fC⟩;replace hR:=hR.mono (aV W0);have vg:au W0 W0 w2:=(aR _ W0).drew.trans fC;have hq:True:=trivial;clear fC;obtain⟨e1,e2,e3,e4⟩:w2.cell? B2=aO (aa ag x.o)/\w2.cell? ⟨B2,1,aN⟩=aO (aa ag x.f)/\w2.cell? ⟨B2,2,aN⟩=aO (aa ag x.t)/\w2.cell? ⟨B2,3,aN⟩=aO (aq x.a):=⟨(vg.cell (p:=B2) sY).trans d1,(vg.cell (p:=⟨B2,1,aN⟩) sY).trans d2,(vg.cell (p:=⟨B2,2,aN⟩) sY).trans d3,(vg.cell (p:=⟨B2,3,aN⟩) sY).trans d4⟩;have BX:W0.heap.size<=w2.heap.size:=vg.size;have vh:True:=trivial)
   | (go_simp;go_at_call 146;refine(hw _ (rQ.alloc ph (aM #[aa ag x.o, aa ag x.f, aa ag x.t, aq x.a] 117)).drew).mono ?_;clear hw;rintro e w2 ⟨v,rfl,hR,fC⟩;replace hR:=hR.mono (base':=W0.heap.size) (by simp);have mg:au (W0.heap.size+1) (W0.alloc (aM #[aa ag x.o, aa ag x.f, aa ag x.t, aq x.a] 117)) w2:=(aR _ _).drew.trans (fC.mono (by simp));have vg:au W0 W0 w2:=eX mg;have hq:=(iv (bC _) mg).1;clear fC mg;obtain⟨e1,e2,e3,e4⟩:w2.cell? B2=aO (aa ag x.o)/\w2.cell? ⟨B2,1,aN⟩=aO (aa ag x.f)/\w2.cell? ⟨B2,2,aN⟩=aO (aa ag x.t)/\w2.cell? ⟨B2,3,aN⟩=aO (aq x.a):=⟨(vg.cell (p:=B2) sY).trans d1,(vg.cell (p:=⟨B2,1,aN⟩) sY).trans d2,(vg.cell (p:=⟨B2,2,aN⟩) sY).trans d3,(vg.cell (p:=⟨B2,3,aN⟩) sY).trans d4⟩;have BX:W0.heap.size<=w2.heap.size:=vg.size;have vh:True:=trivial)
   | (go_simp;go_at_call 145;refine(Lr (eE l x++[x]) W0 v3 w3 yC (by simp) (by have:=M0.out;simp;omega) (by omega)).mono ?_;clear yC;rintro e w4 ⟨v4,m',rfl,hp,hs,uW,eO⟩;have Kj:ax (Rows w4 W0 v4 (fH m')):=uW;have kT:ax (au w w w4):=rQ.trans ((Iy.trans eO).mono ph);have HP:ax (jl (fH m')/\nO aH l x (fH m')):=HT.out m' hp hs;clear uW eO hp hs))
  all_goals go_wp2
  all_goals go_ret2
  all_goals exact⟨v4,0,fH m',rfl,Kj.mono ph,kT.out,.inr ⟨rfl,.inr HM.out,HP.out⟩⟩
 ·go_ret2
  exact⟨ah aN 0 0,13,[],rfl,Rows.nil _ _,lV.alloc lV.size _,.inl ⟨rfl,rfl,rfl,HM.out⟩⟩
end Go.Proofs.YtjnkfelecopbjaaGreatDoor.LK
namespace Go.Proofs.YtjnkfelecopbjaaGreatDoor.LK
open Go.RowKit Go.Sort KM
theorem Ch(a b:az)(w:aw):Sem.run aP (Instr.field 56 (ar #[a,b]) 0) w=.ok a w:=by first|kernel_rfl|simp[go_sem]|rfl
theorem Ly{free:Bool}{l:aB Lk}{x:Lk}{w w':aw}{e:Ending}(h:yI free l x w e w'):ax (au w w w')/\((∃ v,e=aK (aL #[v,aa ag 13])/\ax (free=aH/\l.any (gq x)=aI)) \/ ∃ p n c m,e=aK (aL #[ah p n c,aa ag 0])/\ax (n=m.length)/\ax (Rows w' w (ah p n c) m)/\ax ((free=aI\/l.any (gq x)=aH)/\jl m/\nO free l x m)/\((40:aF)<(n:aF)\/¬ (40:aF)<(n:aF))):=by
 obtain⟨v,err,m,rfl,hR,hB,⟨rfl,rfl,h1⟩|⟨rfl,h1⟩⟩:=h
 ·exact⟨hB,.inl ⟨v,rfl,h1⟩⟩
 ·obtain⟨p,c,rfl,_,_,_⟩:=hR.form
  exact⟨hB,.inr ⟨p,m.length,c,m,rfl,rfl,hR,h1,Decidable.em _⟩⟩
abbrev MZ(free:Bool)(l:aB Lk)(x:Lk)(w:aw)(gf:aE)(lb:Array az):Prop:=
 jq l x=0->∀ W,au w w W->ay aP gf lb W (yI free l x W)
theorem V1(l:aB Lk)(x:Lk):kb [(eA l).1,(eA [x]).1]=jq l x:=by rw[EP];unfold jq kb kb kb;by_cases h:rH x<;>by_cases h1:(eA l).1=0<;>simp[h,h1]
theorem oh(free:Bool)(l:aB Lk)(x:Lk)(p:aC aJ)(cap:aE)(gf:aE)(lb:Array az)(eg:∀ args w,(callFunc gf args).run aP w=.ok (.enter gf args) w)(w:aw)(hL:bI w p l)(hn:l.length<4611686018427387904)(ir:l.length<=cap)(xE:MZ free l x w gf lb):ay aP 142 #[ah p l.length cap,ar #[aa ag x.o, aa ag x.f, aa ag x.t, aq x.a],.func (.func gf) #[] lb] w (mA free l x w):=by
 have qM:=fun W (hB:au w.heap.size w W)=>pW l p cap W (hL.bB hB) hn ir
 have xw:∀ (W:aw) (H:aE),H<W.heap.size->(∀ j u,(jY x)[j]?=aO u->W.cell? ⟨H,j,aN⟩=aO u)->ay aP 183 #[ah (aO ⟨H,0,aN⟩) 1 1] W (mX [x] W):=fun W H hH hc=>
  pW [x] (aO ⟨H,0,aN⟩) 1 W (.inr ⟨H,0,rfl,hH,fun j e he i v hv=>by
   cases j with
   | zero => obtain rfl : x = e:=by simpa using he
             simpa using hc i v hv
   | succ j=>simp at he⟩) (by show 1<_;decide) (by show 1<=1;decide)
 have HP:ax (kb [(eA l).1,(eA [x]).1]=jq l x):=V1 l x;have HCH:ax (MZ free l x w gf lb):=xE;unfold mX at qM xw;generalize (eA l).1=f1 at qM HP;generalize (eA l).2=X6 at qM;generalize (eA [x]).1=f2 at xw HP;generalize (eA [x]).2=f2' at xw;generalize l.length=n at *;clear xE hL;go_enter func142,ntmps142;have Gc:=Ch;go_wp2;have rQ:au w w (w.alloc (aM #[aa ag x.o, aa ag x.f, aa ag x.t, aq x.a] 117)):=((Grown.refl w).alloc _).below;obtain⟨⟨d1,d2,d3,d4⟩,_⟩:=iv (w:=w) (B:=w.heap.size+1) (bC _) (aR _ (w.alloc (aM #[aa ag x.o, aa ag x.f, aa ag x.t, aq x.a] 117)));have sY:w.heap.size<(w.alloc (aM #[aa ag x.o, aa ag x.f, aa ag x.t, aq x.a] 117)).heap.size:=by simp
 generalize w.alloc (aM #[aa ag x.o, aa ag x.f, aa ag x.t, aq x.a] 117)=W0 at *;have ph:=rQ.size;generalize BU:jq l x=pe at HP;have ZE:ax (jq l x=pe):=BU;clear BU;go_region_law (first
  | (go_simp;go_at_call 183;refine(qM _ rQ.drew).mono ?_;clear qM;rintro e w2 ⟨rfl,fC⟩;have vg:au W0 W0 w2:=(aR _ W0).drew.trans fC;have hq:True:=trivial;clear fC;obtain⟨e1,e2,e3,e4⟩:w2.cell? w=aO (aa ag x.o)/\w2.cell? ⟨w,1,aN⟩=aO (aa ag x.f)/\w2.cell? ⟨w,2,aN⟩=aO (aa ag x.t)/\w2.cell? ⟨w,3,aN⟩=aO (aq x.a):=⟨(vg.cell (p:=w) sY).trans d1,(vg.cell (p:=⟨w,1,aN⟩) sY).trans d2,(vg.cell (p:=⟨w,2,aN⟩) sY).trans d3,(vg.cell (p:=⟨w,3,aN⟩) sY).trans d4⟩;have BX:W0.heap.size<=w2.heap.size:=vg.size;have vh:True:=trivial)
  | (go_simp;go_at_call 183;refine(qM _ (rQ.alloc ph (aM #[aa ag x.o, aa ag x.f, aa ag x.t, aq x.a] 117)).drew).mono ?_;clear qM;rintro e w2 ⟨rfl,fC⟩;have mg:au (W0.heap.size+1) (W0.alloc (aM #[aa ag x.o, aa ag x.f, aa ag x.t, aq x.a] 117)) w2:=(aR _ _).drew.trans (fC.mono (by simp));have vg:au W0 W0 w2:=eX mg;have hq:=(iv (bC _) mg).1;have UC:W0.heap.size<w2.heap.size:=(by have:=mg.size;simp at this;omega);clear fC mg;obtain⟨e1,e2,e3,e4⟩:w2.cell? w=aO (aa ag x.o)/\w2.cell? ⟨w,1,aN⟩=aO (aa ag x.f)/\w2.cell? ⟨w,2,aN⟩=aO (aa ag x.t)/\w2.cell? ⟨w,3,aN⟩=aO (aq x.a):=⟨(vg.cell (p:=w) sY).trans d1,(vg.cell (p:=⟨w,1,aN⟩) sY).trans d2,(vg.cell (p:=⟨w,2,aN⟩) sY).trans d3,(vg.cell (p:=⟨w,3,aN⟩) sY).trans d4⟩;have BX:W0.heap.size<=w2.heap.size:=vg.size;have vh:True:=trivial)
  | (go_simp;go_at_call 183;refine(xw _ W0 UC (fun j u hu=>by have:=NF hq j u hu;rwa [dG,dD]at this)).mono ?_;clear vh;rintro e w3 ⟨rfl,eG⟩;have Iy:au W0 W0 w3:=vg.trans (eG.mono BX);clear eG xw;have Sv:=Iy.size)
  | (go_simp;go_at_call 183;refine(xw _ w2 (by simp) (fun j u hu=>by have:=lK w2 x _ rfl j u hu;rwa [dG,dD]at this)).mono ?_;clear vh;rintro e w3 ⟨rfl,eG⟩;have Iy:au W0 W0 w3:=vg.trans ((((Grown.refl w2).alloc _).below.trans (eG.mono (by simp))).mono BX);clear eG xw;have Sv:=Iy.size)
  | (go_simp;go_at_call 109;refine(Tb f1 f2 w3 _ (by simp) (by simp)).mono ?_;rintro e w4 ⟨rfl,hw4⟩;subst hw4;rw[HP.out]))
 all_goals (have eG:au w w (w3.alloc (aM #[aa ag f1,aa ag f2] 31)):=(rQ.trans (Iy.mono ph)).alloc (by omega) _)
 all_goals clear vg Iy e1 e2 e3 e4 d1 d2 d3 d4
 all_goals (generalize w3.alloc (aM #[aa ag f1,aa ag f2] 31)=W4 at *)
 all_goals (
  by_cases ab5:pe=0
  ·subst ab5
   have xE:=HCH.out ZE.out _ eG;go_wp2_with (go_at_fn gf;refine xE.mono ?_;clear xE;intro e w5 hM;obtain⟨tE,⟨v,rfl,H1⟩|⟨p5,n5,c5,m,rfl,XI,XO,H1,KQ|KQ⟩⟩:=Ly hM<;>clear hM)
   ·go_ret2
    exact⟨ah aN 0 0,13,[],rfl,Rows.nil _ _,.inr (.inl ⟨ZE.out,H1.1,H1.2,rfl,rfl⟩),Below.bK eG tE.out⟩
   ·go_ret2
    exact⟨ah aN 0 0,5,[],rfl,Rows.nil _ _,.inr (.inr ⟨ZE.out,H1.1,m,H1.2.1,H1.2.2,.inl ⟨by have:=XI.out;omega,rfl,rfl⟩⟩),Below.bK eG tE.out⟩
   ·go_ret2
    exact⟨ah p5 n5 c5,0,m,rfl,XO.mono eG.size,.inr (.inr ⟨ZE.out,H1.1,m,H1.2.1,H1.2.2,.inr ⟨by have:=XI.out;omega,rfl,rfl⟩⟩),Below.bK eG tE.out⟩
  ·go_wp2
   go_ret2;exact⟨ah aN 0 0,pe,[],rfl,Rows.nil _ _,.inl ⟨by rw[ZE.out];exact ab5,ZE.symm,rfl⟩,eG⟩)
theorem EJ(w:aw)(p:aC aJ)(n cap:aE)(x:Lk):Cu ((w.alloc (aM #[ah p n cap] 96)).alloc (aM #[aa ag x.o, aa ag x.f, aa ag x.t, aq x.a] 117)) w (w.heap.size+1) p n cap x:=by
 have e:w.heap.size+1=(w.alloc (aM #[ah p n cap] 96)).heap.size:=by simp
 have h4:=(S0 (X:=w.alloc (aM #[ah p n cap] 96)) (t:=117) (a:=aa ag x.o) (b:=aa ag x.f) (c:=aa ag x.t) (d:=aq x.a) e (aR _ _)).1;exact⟨bj _ (by simp),h4,by simp;omega,by simp⟩
theorem RE(l:aB Lk)(x:Lk)(p:aC aJ)(cap:aE)(w:aw)(hL:bI w p l)(hn:l.length<4611686018427387904)(ir:l.length<=cap):ay aP 93 #[ah p l.length cap,ar #[aa ag x.o, aa ag x.f, aa ag x.t, aq x.a]] w (mA aI l x w):=by have eg:∀ args w,(callFunc 147 args).run aP w=.ok (.enter 147 args) w:=enters_of func147 (by kernel_rfl) rfl;have hG:Grown w ((w.alloc (aM #[ah p l.length cap] 96)).alloc (aM #[aa ag x.o, aa ag x.f, aa ag x.t, aq x.a] 117)):=((Grown.refl w).alloc _).alloc _;have hc:=oh aI l x p cap 147 #[aj (aO ⟨w.heap.size,0,aN⟩),aj (aO ⟨w.heap.size+1,0,aN⟩)] eg _ (hL.grown hG) hn ir (fun h0 W hB=>wJ l x p cap w.heap.size (w.heap.size+1) W ((hL.grown hG).bB hB) h0 ((EJ w p l.length cap x).bB hB));generalize l.length=n at *;clear eg hL;go_enter func93,ntmps93;go_wp2_with (go_at_call 142;refine hc.mono ?_;clear hc;rintro e w1 ⟨v,err,m,rfl,hR,hS,hB⟩;have HR:ax (Rows w1 w.heap.size v m):=hR.mono (by simp;omega);have HS:ax (nP aI l x err m):=hS;have HB:ax (au w.heap.size w w1):=hG.below.trans (hB.mono (by simp;omega));clear hR hS hB);go_ret2;exact⟨v,err,m,rfl,HR.out,HS.out,HB.out⟩
theorem TV(l:aB Lk)(x:Lk)(p:aC aJ)(cap:aE)(w:aw)(hL:bI w p l)(hn:l.length<4611686018427387904)(ir:l.length<=cap):ay aP 92 #[ah p l.length cap,ar #[aa ag x.o, aa ag x.f, aa ag x.t, aq x.a]] w (mA aH l x w):=by have eg:∀ args w,(callFunc 143 args).run aP w=.ok (.enter 143 args) w:=enters_of func143 (by kernel_rfl) rfl;have hG:Grown w ((w.alloc (aM #[ah p l.length cap] 96)).alloc (aM #[aa ag x.o, aa ag x.f, aa ag x.t, aq x.a] 117)):=((Grown.refl w).alloc _).alloc _;have hc:=oh aH l x p cap 143 #[aj (aO ⟨w.heap.size,0,aN⟩),aj (aO ⟨w.heap.size+1,0,aN⟩)] eg _ (hL.grown hG) hn ir (fun h0 W hB=>P8 l x p cap w.heap.size (w.heap.size+1) W ((hL.grown hG).bB hB) h0 ((EJ w p l.length cap x).bB hB));generalize l.length=n at *;clear eg hL;go_enter func92,ntmps92;go_wp2_with (go_at_call 142;refine hc.mono ?_;clear hc;rintro e w1 ⟨v,err,m,rfl,hR,hS,hB⟩;have HR:ax (Rows w1 w.heap.size v m):=hR.mono (by simp;omega);have HS:ax (nP aH l x err m):=hS;have HB:ax (au w.heap.size w w1):=hG.below.trans (hB.mono (by simp;omega));clear hR hS hB);go_ret2;exact⟨v,err,m,rfl,HR.out,HS.out,HB.out⟩
end Go.Proofs.YtjnkfelecopbjaaGreatDoor.LK
namespace Go.Proofs.YtjnkfelecopbjaaGreatDoor
open Go.RowKit PM Go.Sort
namespace PM
end PM
namespace PM
end PM
theorem MC{w W:aw}{o o2:Obj}(h:au (w.heap.size+2) ((w.alloc o).alloc o2) W)(a b c d:az):au w w ((((W.setCell ⟨↑w+1,0,aN⟩ a).setCell ⟨↑w+1,1,aN⟩ b).setCell ⟨↑w+1,2,aN⟩ c).setCell ⟨↑w+1,3,aN⟩ d):=
 ((((lG h).setCell (p:=⟨↑w+1,0,aN⟩) (by simp) _).setCell (p:=⟨↑w+1,1,aN⟩) (by simp) _).setCell (p:=⟨↑w+1,2,aN⟩) (by simp) _).setCell (p:=⟨↑w+1,3,aN⟩) (by simp) _
abbrev EI(f:aE)(args:Array az)(W:aw):Prop:=ay aP f args W fun r w'=>r=aK (aq aI)/\au W W w'
theorem union_right{ls:aB (aB bP)}{t:aB bP}(hl:ls.length<=5)(h:bG ls=(0,t)):bH ls=(0,0)/\cO ls=t:=by
 have h1:(bG ls).1=0:=by rw[h]
 have h0:(bH ls).1=0:=gT.2 ⟨hl,h1,sD h1⟩;refine⟨?_,by rw[cO,aY h0,h]⟩;unfold bH;rw[aW (by omega),aY ((qJ ls 0).2 (sD h1)),h1]
theorem zF(y:Lay)(lo:aB Lay)(m:aF)(pl:aC aJ)(cl:aE)(W:aw)(hU:eZ W y lo pl cl)(hm:W.cell? ⟨0,0,aN⟩=aO (aa ag m)):ay aP 8 #[ar #[ah y.ad y.es.length y.cap,ah pl lo.length cl]] W (gp (bH (y.es::lo.map (·.es))).1 (cO (y.es::lo.map (·.es))) W):=
 GR W y.ad y.es.length y.cap pl lo.length cl _ _ _ (fun X hX=>by
  have h:=hU.bB hX;exact Dj y lo m pl cl X h.anO h.all h.nil (held hX hm))
