import Derived.Test.YtjnkfelecopbjaaGreatDoorYA10
open Go.Proofs.Tryz
open Go.Value renaming int->aa,slice->ah,string->ai,pointer->aj,bool->aq,agg->ar,tuple->aL
open Go.IntKind renaming i64->ag
open Go.RowKit renaming Below->au
open Go renaming World->aw,Aside->ax,Calls->ay,Value->az,Addr->aJ
open _root_ renaming ByteArray->aA,List->aB,Option->aC,Nat->aE,Int->aF,absurd->aG
open Bool renaming false->aH,true->aI
open Go.Ending renaming returned->aK
open Go.Obj renaming cells->aM
open Option renaming none->aN,some->aO
open Go.Proofs.Tryz renaming prog->aP
set_option linter.all false
set_option maxHeartbeats 4000000
set_option maxRecDepth 100000
namespace Go.Proofs.YtjnkfelecopbjaaGreatDoor
open Go.RowKit PM Go.Sort
variable{B S aS:aE}{L:im}{W X:aw}{a b c d:az}{an:An}{fr:aE × aE}{cq:aB (aB bP)}{p:aE × Obj}{t:TypeId}{up:aB bP}
def xz(sp:aE->Prop)(W:aw)(an:An)(v:az):Prop:=∃ (p:aC aJ) (c:aE) (bs:aB aA),v=ar #[aa ag an.err,aa ag an.n,ai an.text,ah p bs.length c]/\bs.map (·.data.toList)=an.names/\bs.length<=c/\(p=aN->c=0)/\St sp W (fun Y=>jy Y p bs)
def PM.gz(n:aF)(t:aA):An:=⟨0,n,t,[]⟩
theorem pG(sp:aE->Prop)(W:aw)(n:aF)(t:aA):xz sp W (gz n t) (ar #[aa ag 0,aa ag n,ai t,ah aN 0 0]):=⟨aN,0,[],rfl,rfl,aV _,fun _=>rfl,fun _ _=>.inl rfl⟩
def rv(S:aE)(s:Sy)(L:im)(b:aE):Prop:=b=S\/(∃ j,j<s.bJ.length/\b=L.ob j)\/∃ i,i<s.bh.length/\b=L.fb i
def ki(aS S:aE)(s:Sy)(L:im)(s':Sy)(an:An)(X:aw)(r:Ending)(X':aw):Prop:=∃ v L',r=aK v/\bV aS X' S s' L'/\xz (Sp S s' L') X' an v/\au aS X X'/\(∀ b,L.ex b->L'.ex b)/\cA (rv S s L) X X'/\∀ b,Sp S s' L' b->Sp S s L b\/X.heap.size<=b
def cF(aS S:aE)(s:Sy)(L:im)(err:aF)(s':Sy)(an:An)(W:aw)(r:Ending)(W':aw):Prop:=∃ v,r=aK (aL #[v,aa ag err])/\au W W W'/\(err=0->∃ g cap,v=.func (.func g) #[] cap/\(∀ args w,(callFunc g args).run aP w=.ok (.enter g args) w)/\ay aP g cap W' (ki aS S s L s' an W'))
section
variable {aS:aE}{W X:aw}{S:aE}{s:Sy}{L:im}
theorem bV.aside(h:bV aS W S s L)(o:Obj):bV aS (W.alloc o) S s { L with ex:=fun b=>b=W.heap.size\/L.ex b }:=by
 have hB:au W W (W.alloc o):=((Grown.refl W).alloc _).below;have hk:=h.bB hB;refine⟨hk.blk,hk.opn,hk.tY,h.Df,h.B6,fun Y hY=>?_,h.up,h.low,h.sI,h.sJ,h.qo,h.pV,fun b hb=>?_,h.aS⟩
 ·have hZ:cA (Sp S s L) W Y:=⟨bc hB.size hY.size,fun b hb hn=>(hY.block b (aZ hb hB.size) (fun hs=>hn (by
   rcases hs with(rfl|(rfl|hx))|hs
   ·exact .inl (.inl rfl)
   ·omega
   ·exact .inl (.inr hx)
   ·exact .inr hs))).trans (hB.block b hb)⟩
  exact⟨(h.data Y hZ).un,(h.data Y hZ).bA,(h.data Y hZ).b9⟩
 ·rcases hb with rfl|hb
  ·exact⟨bc h.aS.1 (bM h.lt),by simp⟩
  ·exact hk.wF b hb
theorem bV.yM(h:bV aS W S s L){b:aE}(hx:L.ex b){c:Array az}(hb:W.heap[b]?=aO (aM c t fr))(h1:t≠49)(h2:t≠80)(h3:t≠169)(i:aE)(v:az):bV aS (W.setCell ⟨b,i,aN⟩ v) S s L:=by
 have hk:cA (·=b) W (W.setCell ⟨b,i,aN⟩ v):=cA.set (sp:=(·=b)) rfl _ _ _;have J8:cA (Sp S s L) W (W.setCell ⟨b,i,aN⟩ v):=cA.set (.inl (.inr hx)) _ _ _;refine⟨?_,fun j o ho=>?_,fun k f hf=>?_,h.Df,h.B6,h.data.on J8,h.up,h.low,h.sI,h.sJ,h.qo,h.pV,fun b hb=>⟨(h.wF b hb).1,aZ (h.wF b hb).2 hk.size⟩,h.aS⟩
 ·obtain⟨arr,ha,r⟩:=h.blk
  exact⟨arr,(hk.block S h.lt (fun e=>by rw[e,hb]at ha;injection ha with ha;injection ha with _ ha _;exact h1 ha)).trans ha,r⟩
 ·have ha:=h.opn j o ho
  exact(hk.block _ (h.Cs (aQ.1 ho).1) (fun e=>by rw[e,hb]at ha;injection ha with ha;injection ha with _ ha _;exact h2 ha)).trans ha
 ·have ha:=h.tY k f hf
  exact(hk.block _ (h.BL (aQ.1 hf).1) (fun e=>by rw[e,hb]at ha;injection ha with ha;injection ha with _ ha _;exact h3 ha)).trans ha
end
theorem cK(h:W.heap[B]?=aO (aM #[a,b,c,d] t (0,0))):(W.cell? B=aO a/\W.cell? ⟨B,1,aN⟩=aO b/\W.cell? ⟨B,2,aN⟩=aO c/\W.cell? ⟨B,3,aN⟩=aO d)/\W.frozen? B=aH/\W.frozen? ⟨B,1,aN⟩=aH/\W.frozen? ⟨B,2,aN⟩=aH/\W.frozen? ⟨B,3,aN⟩=aH:=by refine⟨⟨?_,?_,?_,?_⟩,?_,?_,?_,?_⟩<;>simp[World.cell?,World.frozen?,h]
theorem bV.anL{s:Sy}(h:bV aS W S s L)(hx:L.ex B)(hb:W.heap[B]?=aO (aM #[a,b,c,d] 38 (0,0)))(a' b' c' d':az):bV aS ((((W.setCell B a').setCell ⟨B,1,aN⟩ b').setCell ⟨B,2,aN⟩ c').setCell ⟨B,3,aN⟩ d') S s L/\au aS W ((((W.setCell B a').setCell ⟨B,1,aN⟩ b').setCell ⟨B,2,aN⟩ c').setCell ⟨B,3,aN⟩ d'):=by have k1:=dZ hb 0 a';have k2:=dZ k1 1 b';have k3:=dZ k2 2 c';have hB:=(h.wF B hx).1;refine⟨((((h.yM hx hb (by decide) (by decide) (by decide) 0 a').yM hx k1 (by decide) (by decide) (by decide) 1 b').yM hx k2 (by decide) (by decide) (by decide) 2 c').yM hx k3 (by decide) (by decide) (by decide) 3 d'),?_⟩;exact((((aR _ _).setCell (p:=B) hB _).setCell (p:=⟨B,1,aN⟩) hB _).setCell (p:=⟨B,2,aN⟩) hB _).setCell (p:=⟨B,3,aN⟩) hB _
structure CC (L L':im) (n:aE):Prop where
 ob:L'.ob=L.ob
 fb:L'.fb=L.fb
 ex:∀ b,L'.ex b↔b=n\/L.ex b
def kO(s s':Sy):Prop:=s'.bJ.length=s.bJ.length/\s'.bh.length=s.bh.length
theorem kO.trans{s s' s'':Sy}(h:kO s s')(g:kO s' s''):kO s s'':=⟨g.1.trans h.1,g.2.trans h.2⟩
theorem CC.sp{s s':Sy}{L':im}{n:aE}(h:CC L L' n)(hn:kO s s')(b:aE)(hb:Sp S s' L' b):Sp S s L b\/n<=b:=by
 rcases hb with(e|hx)|⟨j,hj,e⟩|⟨i,hi,e⟩
 ·exact .inl (.inl (.inl e))
 ·rcases(h.ex b).1 hx with e|hx
  ·exact .inr (rP e.symm)
  ·exact .inl (.inl (.inr hx))
 ·rw[hn.1]at hj;rw[h.ob]at e;exact .inl (.inr (.inl ⟨j,hj,e⟩))
 ·rw[hn.2]at hi;rw[h.fb]at e;exact .inl (.inr (.inr ⟨i,hi,e⟩))
def Mid(aS S:aE)(s:Sy)(L:im)(s':Sy)(L':im)(X X2:aw):Prop:=bV aS X2 S s' L'/\CC L L' X.heap.size/\au aS X X2/\cA (rv S s L) X X2/\X2.heap[X.heap.size]?=aO (aM #[aa ag 0,aa ag 0,ai ⟨#[]⟩,ah aN 0 0] 38)
theorem Mid.fin{s:Sy}{s':Sy}{L':im}{X2:aw}(q:Mid aS S s L s' L' X X2)(hn:kO s s')(a b c d:az)(hA:∀ W,xz (Sp S s' L') W an (ar #[a,b,c,d])):ki aS S s L s' an X (aK (ar #[a,b,c,d])) ((((X2.setCell X a).setCell ⟨X,1,aN⟩ b).setCell ⟨X,2,aN⟩ c).setCell ⟨X,3,aN⟩ d):=by
 obtain⟨q1,q2,q3,q5,q4⟩:=q;obtain⟨k1,k2⟩:=q1.anL ((q2.ex _).2 (.inl rfl)) q4 a b c d;refine⟨_,L',rfl,k1,hA _,q3.trans k2,fun b hb=>(q2.ex b).2 (.inr hb),⟨bc q5.size (by simp[World.setCell]),fun x hx hn=>?_⟩,fun b hb=>q2.sp hn b hb⟩;have hne:∀ (Z:aw) (i:aE) (v:az),(Z.setCell ⟨X,i,aN⟩ v).heap[x]?=Z.heap[x]?:=fun Z i v=>cI _ _ _ _ (by show x≠X.heap.size;omega)
 rw[hne,hne,hne,hne];exact q5.block x hx hn
theorem cA.LF{sp sp':aE->Prop}{X1 X2:aw}(hB:au X X X1)(hk:cA sp X1 X2)(hs:∀ b,sp b->sp' b):cA sp' X X2:=(cA.dB _ hB).trans (hk.pw hs)
structure uE (W:aw) (B:aE) (y:Lay) (lo:aB Lay) (pl:aC aJ) (cl:aE):Prop where
 c0:W.cell? B=aO (ah y.ad y.es.length y.cap)
 c1:W.cell? ⟨B,1,aN⟩=aO (ah pl lo.length cl)
theorem aaO{s:Sy}(h:bV aS X S s L)(hg:Gl aS X)(B0 B1:aE)(zO:X.cell? B0=aO (aj (aO S)))(y:Lay)(lo:aB Lay)(pl:aC aJ)(cl:aE)(si:uE X B1 y lo pl cl)(hU:St (Sp S s L) X (fun X=>eZ X y lo pl cl))(h0:(bH (y.es::lo.map (·.es))).1=0):ay aP 78 #[aj (aO B0),aj (aO B1)] X (ki aS S s L (s.di y.es (lo.map (·.es))) (gz 0 ⟨#[]⟩) X):=by
 obtain⟨c0,c1⟩:=si;obtain⟨X1,yD⟩:=o7 (X.alloc (aM #[aa ag 0,aa ag 0,ai ⟨#[]⟩,ah aN 0 0] 38))
 have fg:au X X X1:=by rw[<- yD];exact((Grown.refl X).alloc _).below
 have h1:=h.aside (aM #[aa ag 0,aa ag 0,ai ⟨#[]⟩,ah aN 0 0] 38);rw[yD]at h1;have pN:au aS X X1:=fg.mono (bc h.aS.1 (bM h.lt));have kQ:=pU h1 (hg.bB pN) y lo pl cl (fun Y hY=>hU Y ⟨bc fg.size hY.size,fun b hb hn=>(hY.block b (aZ hb fg.size) (fun hs=>hn (by
   rcases hs with(rfl|(rfl|hx))|hs
   ·exact .inl (.inl rfl)
   ·omega
   ·exact .inl (.inr hx)
   ·exact .inr hs))).trans (fg.block b hb)⟩) h0
 have HX:ax (X1.heap[X.heap.size]?=aO (aM #[aa ag 0,aa ag 0,ai ⟨#[]⟩,ah aN 0 0] 38)/\au aS X X1/\S<X/\aS<=X):=⟨by rw[<- yD];exact heap_alloc_last X _,pN,h.lt,bc h.aS.1 (bM h.lt)⟩
 have G4:ax (au X X X1):=fg;rw[<- yD]at kQ;have HE:ax (X.alloc (aM #[aa ag 0,aa ag 0,ai ⟨#[]⟩,ah aN 0 0] 38)=X1):=yD;clear h hg hU h0 fg pN h1 yD;have n0:¬ B0=X.heap.size:=fun e=>World.new_ne X ⟨B0,0,aN⟩ zO e.symm
 have n1:¬ B1=X.heap.size:=fun e=>World.new_ne X ⟨B1,0,aN⟩ c0 e.symm
 generalize y.es.length=yn at c0 kQ;generalize lo.length=ln at c1 kQ;have a0:=bj (aM #[aa ag 0,aa ag 0,ai ⟨#[]⟩,ah aN 0 0] 38) zO;have a1:=bj (aM #[aa ag 0,aa ag 0,ai ⟨#[]⟩,ah aN 0 0] 38) c0;have a2:=bj (aM #[aa ag 0,aa ag 0,ai ⟨#[]⟩,ah aN 0 0] 38) c1;clear zO c0 c1;go_enter func78,ntmps78;go_wp2_with (go_at_call 74;refine kQ.mono ?_;clear kQ;rintro r w2 ⟨rfl,hS2⟩;rw[HE.out]at hS2;obtain⟨L2,CW,Lf,O3,yc,uX,j4⟩:=hS2;have kV:w2.heap[X.heap.size]?=aO (aM #[aa ag 0,aa ag 0,ai ⟨#[]⟩,ah aN 0 0] 38):=(j4.block _ (aX.1 HX.1).1 (fun e=>by have:=HX.2.2.1;omega)).trans HX.1;have H2:ax (Mid aS S s L (s.di y.es (lo.map (·.es))) L2 X w2):=⟨CW,⟨Lf,O3,fun b=>(by rw[yc])⟩,HX.2.1.trans uX,cA.LF G4.out j4 (fun b hb=>.inl hb),kV⟩;obtain⟨⟨d0,d1,d2,d3⟩,z0,z1,z2,z3⟩:=cK kV;clear CW yc uX j4 kV);refine ba (v:=ar #[aa ag 0,aa ag 0,ai ⟨#[]⟩,ah aN 0 0]) (by simp[results,results78,go_sem,d0,d1,d2,d3]) rfl ?_;exact H2.fin ⟨rfl,rfl⟩ _ _ _ _ (fun W=>pG _ _ _ _)
section
variable {W X Y:aw}{l:aB (aE × Obj)}{B:aE}
structure Hb (W X:aw) (l:aB (aE × Obj)):Prop where
 low:au W W X
 all:∀ p∈l,X.heap[p.1]?=aO p.2/\W.heap.size<=p.1
 one:(l.map (·.1)).Nodup
theorem Hb.nil(W:aw):Hb W W []:=⟨aR _ _,by simp,by simp⟩
theorem Hb.lt(h:Hb W X l)(hp:p∈l):p.1<X.heap.size:=(aX.1 (h.all p hp).1).1
theorem Hb.on(h:Hb W X l)(k:au X X Y):Hb W Y l:=⟨Below.bK h.low k,fun p hp=>⟨(k.block _ (h.lt hp)).trans (h.all p hp).1,(h.all p hp).2⟩,h.one⟩
theorem Hb.drew(h:Hb W X l):Hb W X.drew l:=h.on (aR _ _).drew
theorem Hb.add(h:Hb W X l)(o:Obj):Hb W (X.alloc o) ((X.heap.size,o)::l):=by
 have k:=h.on ((Grown.refl X).alloc o).below;refine⟨k.low,fun p hp=>?_,?_⟩
 ·rcases cX.1 hp with rfl|hp
  ·exact⟨heap_alloc_last X o,h.low.size⟩
  ·exact k.all p hp
 ·rw[iP,QU]
  exact⟨fun hm=>by obtain⟨p,hp,e⟩:=fT.1 hm;have:=h.lt hp;omega,h.one⟩
theorem Hb.two(W:aw)(a b:Obj):Hb W ((W.alloc a).alloc b) [(W.heap.size+1,b),(W.heap.size,a)]:=by
 have:=((Hb.nil W).add a).add b
 rwa [cE]at this
theorem Hb.tl(h:Hb W X (p::l)):Hb W X l:=⟨h.low,fun q hq=>h.all q (jc _ hq),(QU.1 h.one).2⟩
theorem Hb.hd(h:Hb W X (p::l)):X.heap[p.1]?=aO p.2:=(h.all p Ho).1
theorem Hb.ge(h:Hb W X (p::l)):W.heap.size<=p.1:=(h.all p Ho).2
theorem Hb.set{arr:Array az}(h:Hb W X ((B,.cells arr t fr)::l))(i:aE)(v:az):Hb W (X.setCell ⟨B,i,aN⟩ v) ((B,.cells (arr.setIfInBounds i v) t fr)::l):=by
 have k:=cA.set (sp:=(·=B)) rfl X i v;refine⟨h.low.setCell (p:=⟨B,i,aN⟩) h.ge v,fun p hp=>?_,h.one⟩;rcases cX.1 hp with rfl|hp
 ·exact⟨dZ h.hd i v,h.ge⟩
 ·exact⟨(k.block p.1 (h.tl.lt hp) fun e=>(QU.1 h.one).1 (fT.2 ⟨p,hp,e⟩)).trans (h.tl.all p hp).1,(h.tl.all p hp).2⟩
theorem Hb.Mc(h:Hb W X ((B,.cells #[a,b] t)::l))(c d:az):Hb W ((X.setCell B c).setCell ⟨B,1,aN⟩ d) ((B,.cells #[c,d] t)::l):=(h.set 0 c).set 1 d
theorem Hb.c1(h:Hb W X ((B,.cells #[a] t fr)::l)):X.cell? B=aO a:=by have:=h.hd;simp[World.cell?,this]
theorem Hb.c2(h:Hb W X ((B,.cells #[a,b] t)::l)):(X.cell? B=aO a/\X.cell? ⟨B,1,aN⟩=aO b)/\X.frozen? B=aH/\X.frozen? ⟨B,1,aN⟩=aH:=by have:=h.hd;simp[World.cell?,World.frozen?,this]
theorem Hb.c9{e f g i j:az}(h:Hb W X ((B,.cells #[a,b,c,d,e,f,g,i,j] t)::l)):X.cell? B=aO a/\X.cell? ⟨B,1,aN⟩=aO b/\X.cell? ⟨B,2,aN⟩=aO c/\X.cell? ⟨B,3,aN⟩=aO d/\X.cell? ⟨B,4,aN⟩=aO e/\X.cell? ⟨B,5,aN⟩=aO f/\X.cell? ⟨B,6,aN⟩=aO g/\X.cell? ⟨B,7,aN⟩=aO i/\X.cell? ⟨B,8,aN⟩=aO j:=by have:=h.hd;simp[World.cell?,this]
end
section
variable {aS:aE}{W:aw}{S:aE}{s:Sy}{L:im}
theorem zI(h:bV aS W S s L)(hg:Gl aS W)(way:aA)(cH:Bool)(hw:way.size<=maxLen)(Y:aw)(hY:au W W Y):ay aP 71 #[aj (aO S),ai way,aq cH] Y (jk (dV s.bA cH way).1 (dV s.bA cH way).2 Y):=
 (hg.bB (hY.mono (bc h.aS.1 (bM h.lt)))).2.elim fun m hm=>zl s.bA way cH Y S L.ps L.sc m (h.bB hY).cells.2.2 (h.bB hY).data.now.bA (cY s.all) hw hm
section
variable {X w:aw}{l:aB (aE × Obj)}{y:Lay}{lo:aB Lay}{pl:aC aJ}{cl:aE}
theorem bV.un1(h:bV aS W S s L)(hX:Hb W X l)(hU:eZ w y lo pl cl)(hn:qC X.drew.heap.size y lo pl)(o:Obj):St (Sp S s L) (w.alloc o) fun X=>eZ X y lo pl cl:=St.on (hU.st hn fun b hb=>aZ (h.od hb).2 hX.low.size) (cA.dB _ ((Grown.refl w).alloc _).below)
theorem bV.un2(h:bV aS W S s L)(hX:Hb W X l){o:Obj}(hU:eZ w y lo pl cl)(hn:qC (X.alloc o).drew.heap.size y lo pl)(v0 v1:az):St (Sp S s L) ((w.setCell ⟨X.heap.size,0,aN⟩ v0).setCell ⟨X.heap.size,1,aN⟩ v1) fun X=>eZ X y lo pl cl:=by
 have e:(X.alloc o).drew.heap.size=X.heap.size+1:=cE X o;have:=hX.low.size;refine St.more (St.on (sp:=fun b=>Sp S s L b\/b=X.heap.size) (hU.st hn fun b hb=>?_) ((cA.set (.inr rfl) _ 0 _).trans (cA.set (.inr rfl) _ 1 _))) (fun b _ hb=>.inl hb);rw[e];rcases hb with hb|rfl
 ·have:=(h.od hb).2;omega
 ·omega
end
theorem cF.er{err k:aF}{s':Sy}{v:az}(hB:au W W X)(e:err=k)(hk:¬ k=0):cF aS S s L err s' an W (aK (aL #[v,aa ag k])) X:=e▸⟨v,rfl,hB,fun h=>aG h (e▸hk)⟩
end
namespace PM
def Sy.nu(s:Sy)(way:aA)(bE:aF)(text:aA):bP:=⟨fU (dV s.bA aH way).2,bE,text,aH⟩
noncomputable def Sy.mB(s:Sy)(way:aA)(bE:aF)(text:aA):aF:=if ¬ (dV s.bA aH way).1=0 then(dV s.bA aH way).1 else if(bW s.bA (dV s.bA aH way).2).isSome then 7 else dg (bH s.all).1 (dW s.bA (s.nu way bE text)) (cZ s.up (s.nu way bE text)).length
end PM
theorem cF.no{s:Sy}{err:aF}{s':Sy}{W':aw}(v:az)(he:¬ err=0)(hB:au W W W'):cF aS S s L err s' an W (aK (aL #[v,aa ag err])) W':=⟨v,rfl,hB,fun h=>aG h he⟩
theorem jm{W2:aw}{a b:Obj}(h:(W.alloc a).alloc b=W2):W2.heap[W.heap.size+1]?=aO b:=by
 rw[<- h];have:=heap_alloc_last (W.alloc a) b
 rwa [cE]at this
theorem nB{W2:aw}{a b:Obj}(h:(W.alloc a).alloc b=W2):W2.heap[W.heap.size]?=aO a:=by rw[<- h];exact(((Grown.refl _).alloc b).below.block _ (by simp)).trans (heap_alloc_last W a)
theorem jI(bA:aB bP)(f:Bool)(way:aB UInt8):(dV bA f way).2.length<=80:=by
 unfold dV
 repeat' split
 all_goals simp
 all_goals omega
theorem oB{e:bP}(h:dg (bH (up::cq)).1 (dW (cO (up::cq)) e) (cZ up e).length=0):(bH (cZ up e::cq)).1=0/\cO (cZ up e::cq)=kM (cO (up::cq)) e:=by
 obtain⟨h0,h1,h2⟩:=mF.1 h;obtain⟨Uy,hz,_⟩:=gT.1 h0;have hs:cO (up::cq)=(bG (up::cq)).2:=by rw[cO,aY h0]
 have rU:bG (up::cq)=(0,cO (up::cq)):=by rw[hs];exact Ks hz rfl
 obtain⟨e1,e2⟩:=union_right (by rw[cj]at Uy ⊢;exact Uy) ((PR rU h1).2 h2);exact⟨by rw[e1],e2⟩
def QW(Y:aw)(er:aF)(up:aB bP)(cq:aB (aB bP))(r:Ending)(w':aw):Prop:=∃ (y:Lay) (lo:aB Lay) (pl:aC aJ) (cl yn ln:aE),r=aK (aL #[ar #[ah y.ad yn y.cap,ah pl ln cl],aa ag er])/\ax (yn=y.es.length/\ln=lo.length/\y.es=up/\lo.map (·.es)=cq/\eZ w' y lo pl cl/\au Y Y w'/\qC Y y lo pl)
theorem lL.Tm{Y:aw}{er:aF}{r:Ending}{w':aw}(h:lL er up cq Y r w'):QW Y er up cq r w':=by obtain⟨y,lo,pl,cl,e,h1,h2,h3,h4,h5⟩:=h;exact⟨y,lo,pl,cl,_,_,e,rfl,rfl,h1,h2,h3,h4,h5⟩
theorem U9{s:Sy}(h:bV aS W S s L)(hg:Gl aS W){Wf:aw}(hB:au W W Wf){B0 B1:aE}(zO:Wf.cell? B0=aO (aj (aO S))){y:Lay}{lo:aB Lay}{pl:aC aJ}{cl:aE}(si:uE Wf B1 y lo pl cl)(hU:St (Sp S s L) Wf (fun X=>eZ X y lo pl cl))(hy:y.es=up)(hl:lo.map (·.es)=cq)(h0:(bH (up::cq)).1=0):cF aS S s L 0 (s.di up cq) (gz 0 ⟨#[]⟩) W (aK (aL #[.func (.func 78) #[] #[aj (aO B0),aj (aO B1)],aa ag 0])) Wf:=by subst hy hl;exact⟨_,rfl,hB,fun _=>⟨_,_,rfl,enters_of func78 (by kernel_rfl) rfl,aaO (h.bB hB) (hg.bB (hB.mono (bc h.aS.1 (bM h.lt)))) B0 B1 zO y lo pl cl si hU h0⟩⟩
theorem M6{s:Sy}(h:bV aS W S s L)(hg:Gl aS W)(way:aA)(bE:aF)(text:aA)(hw:way.size<=maxLen)(ht:text.size<=maxLen):ay aP 42 #[aj (aO S),ai way,ar #[ai ⟨#[]⟩,aa ag bE,ai text,aq aH]] W (cF aS S s L (s.mB way bE text) (s.di (cZ s.up (s.nu way bE text)) s.cq) (gz 0 ⟨#[]⟩) W):=by
 have xF:=zI h hg way aH hw;have HQ:ax ((dV s.bA aH way).2.length<=80):=jI _ _ _;have hsc:=fun Y (hY:au W.heap.size W Y)=>(h.bB hY).cells
 have mK:=fun Y (hY:au W.heap.size W Y) d hd=>zH h hY d hd _ rfl _ rfl
 have kG:∀ Y,au W W Y->∀ d:aA,d.size<=80->∀ ae,dg (bH s.all).1 (dW s.bA ⟨d,bE,text,aH⟩) (cZ s.up ⟨d,bE,text,aH⟩).length=ae->ay aP 77 #[ar #[ah L.y.ad L.y.es.length L.y.cap,ah L.pl L.lo.length L.cl],ar #[ai d,aa ag bE,ai text,aq aH]] Y (QW Y ae (if ae=0 then cZ s.up ⟨d,bE,text,aH⟩else[]) (if ae=0 then s.cq else[])):=fun Y hY d hd ae qd=>by
  obtain⟨m',O8⟩:=(hg.bB (hY.mono (bc h.aS.1 (bM h.lt)))).2;refine(uB L.y L.lo m' L.pl L.cl ⟨d,bE,text,aH⟩ (by show d.size<=_;unfold maxLen;omega) (by show d.size<_;omega) (by exact ht) Y (h.bB hY).data.now.un O8).mono fun r w' k=>?_
  have k:=k.Tm;rw[h.up,h.low,show dg (bH (s.up::s.cq)).1 (dW (cO (s.up::s.cq)) ⟨d,bE,text,aH⟩) (cZ s.up ⟨d,bE,text,aH⟩).length=ae from qd]at k;exact k
 have HA:ax (bV aS W S s L/\Gl aS W):=⟨h,hg⟩
 generalize qd:s.mB way bE text=ae;generalize Nw:cZ s.up (s.nu way bE text)=up;unfold Sy.mB at qd;unfold Sy.nu at qd Nw;generalize dV s.bA aH way.data.toList=Q at *;obtain⟨er,q⟩:=Q;have HE:ax (_=ae/\_=up):=⟨qd,Nw⟩
 generalize s.bA.length=sn at hsc mK;generalize L.y.es.length=yn at hsc kG;generalize L.lo.length=ln at hsc kG;simp only at xF HQ HE;have hS:=h.lt;clear qd Nw h hg;go_enter func42,ntmps42;go_upto_region 0 with fail
 go_cut [3,5]from 3 to 7 (fun s3 s5 w=>s3=aj (aO W)/\s5=aj (aO ⟨↑W+1,0,aN⟩)/\ax (Hb W w [(W.heap.size+1,.cells #[ai ⟨#[]⟩,aa ag bE,ai text,aq aH] 88),(W.heap.size,.cells #[aj (aO S)] 42)]))
 case first=>
  go_wp2_with fail;go_meet
  case rel=>exact⟨rfl,rfl,Hb.two W _ _⟩
 obtain⟨rfl,rfl,HB⟩:=hcut;have b0:=HB.tl.c1;go_upto_region 1 with fail
 go_cut [8,9]from 8 to 18 (fun s8 s9 w=>∃ d:aA,s8=ai d/\s9=aa ag er/\ax (d.data.toList=q/\Hb W w [(W.heap.size+1,.cells #[ai ⟨#[]⟩,aa ag bE,ai text,aq aH] 88),(W.heap.size,.cells #[aj (aO S)] 42)]))
 case first=>
  go_wp2_with (go_at_call 71;refine(xF _ HB.low).mono ?_;clear xF;rintro r w3 ⟨d,rfl,hd,eG⟩;have H3:ax _:=fB hd (HB.on eG);clear hd eG);go_meet
  case rel=>exact⟨d,rfl,rfl,H3.out⟩
 obtain⟨d,rfl,rfl,HP⟩:=hcut;clear HB b0 xF;cases h0:(er != 0);rotate_left
 ·have hz:¬ er=0:=by simpa using h0
  go_wp2_with fail;go_ret2;exact cF.er HP.2.low (HE.1.symm.trans (aY hz)) hz
 have Eg:d.size<=80:=by rw[<- ix,HP.1];exact HQ.out
 obtain rfl:er=0:=by simpa using h0
 replace mK:=fun Y hY=>mK Y hY d (by unfold maxLen;omega)
 replace HE:ax ((if(bW s.bA d).isSome=aI then 7 else dg (bH s.all).1 (dW s.bA ⟨d,bE,text,aH⟩) (cZ s.up ⟨d,bE,text,aH⟩).length)=ae/\cZ s.up ⟨d,bE,text,aH⟩=up):=by have hb:fU q=d:=fV (by rw[HP.1];simp[fU]);have:=HE.out;rw[hb,<- HP.1,aW (by simp)]at this;exact this
 have iM:=fun e=>(oB (up:=s.up) (cq:=s.cq) (e:=⟨d,bE,text,aH⟩) e).1
 replace kG:=fun Y hY=>kG Y hY d Eg
 generalize (bW s.bA d).getD cR=x at mK;generalize (bW s.bA d).isSome=th at mK HE;obtain⟨xp,xk,xt,xo⟩:=x;replace HP:ax (Hb W wc _):=HP.2;have b0:=HP.tl.c1;obtain⟨_,_,c2⟩:=hsc _ HP.low;clear h0;go_upto_region 4 with fail
 go_cut [11]from 10 to 30 (fun s11 w=>s11=aq th/\∃ l,ax (Hb W w ((W.heap.size+1,.cells #[ai ⟨#[]⟩,aa ag bE,ai text,aq aH] 88)::(W.heap.size,.cells #[aj (aO S)] 42)::l)))
 case first=>
  go_wp2_with (go_at_call 76;refine(mK _ HP.low).mono ?_;clear mK;rintro r w4 ⟨rfl,eO⟩;have H4:ax _:=HP.on eO;clear eO);go_meet
  case rel=>exact⟨rfl,[],(H4.add _).tl⟩
 clear HP b0 c2 mK;obtain⟨rfl,l,HP⟩:=hcut;cases th;rotate_left
 ·go_wp2_with fail
  go_ret2;exact cF.er HP.low (HE.1.symm.trans (aY (by trivial))) (by decide)
 obtain⟨⟨e0,e1,e2,e3⟩,f0,f1,f2,f3⟩:=cK HP.hd;have qd:=HE.1.symm.trans (aW (by simp));replace kG:=fun Y hY=>kG Y hY ae qd.symm
 have HW:ax (ae=0->(bH (up::s.cq)).1=0):=fun e=>HE.2▸iM (qd.symm.trans e)
 rw[HE.2]at kG;clear qd iM HE;go_upto_region 8 with fail
 replace HP:ax (Hb W _ ((W.heap.size+1,.cells #[ai d,aa ag bE,ai text,aq aH] 88)::_)):=HP.set 0 (ai d);generalize World.setCell _ _ _=wd at HP ⊢;clear e0 e1 e2 e3 f0 f1 f2 f3;obtain⟨⟨e0,e1,e2,e3⟩,_⟩:=cK HP.hd;have b0:=HP.tl.c1;obtain⟨c0,c1,_⟩:=hsc _ HP.low;have n0:=World.new_ne wd ⟨S,0,aN⟩ c0;have n1:=World.new_ne wd ⟨W,0,aN⟩ b0;have n2:=World.new_ne wd ⟨↑W+1,0,aN⟩ e0;go_cut [12,9]from 34 to 42 (fun s12 s9 w=>∃ (U:aE) (y:Lay) (lo:aB Lay) (pl:aC aJ) (cl yn ln:aE),s12=aj (aO U)/\s9=aa ag ae/\ax (Hb W w ((U,.cells #[ah y.ad yn y.cap,ah pl ln cl] 26)::(W.heap.size+1,.cells #[ai d,aa ag bE,ai text,aq aH] 88)::(W.heap.size,.cells #[aj (aO S)] 42)::l)/\(ae=0->yn=y.es.length/\ln=lo.length/\y.es=up/\lo.map (·.es)=s.cq/\St (Sp S s L) w fun X=>eZ X y lo pl cl)))
 case first=>
  go_region_held3 (fun w'=>w'.cell? W=aO (aj (aO S))/\w'.cell? S=aO (ah L.y.ad yn L.y.cap)/\w'.cell? ⟨S,1,aN⟩=aO (ah L.pl ln L.cl)/\w'.cell? ⟨↑W+1,0,aN⟩=aO (ai d)/\w'.cell? ⟨↑W+1,1,aN⟩=aO (aa ag bE)/\w'.cell? ⟨↑W+1,2,aN⟩=aO (ai text)/\w'.cell? ⟨↑W+1,3,aN⟩=aO (aq aH)) (go_keep) (first
   | (go_at_call 77;refine(kG _ HP.drew.low).mono ?_;clear kG;rintro r w7 ⟨y,lo,pl,cl,D6,tK,rfl,H7⟩;have H4:=HP.drew.on H7.2.2.2.2.2.1;have z0:=H4.tl.c1;obtain⟨z1,z2,_⟩:=hsc _ H4.low;obtain⟨⟨z3,z4,z5,z6⟩,_⟩:=cK H4.hd;have HF:ax _:=H4;clear H4)
   | (go_at_call 77;refine(kG _ (HP.add _).drew.low).mono ?_;clear kG;rintro r w7 ⟨y,lo,pl,cl,D6,tK,rfl,H7⟩;have H4:=(HP.add _).drew.on H7.2.2.2.2.2.1;have z0:=H4.tl.tl.c1;obtain⟨z1,z2,_⟩:=hsc _ H4.low;obtain⟨⟨z3,z4,z5,z6⟩,_⟩:=cK H4.tl.hd;obtain⟨⟨x0,x1⟩,f0,f1⟩:=H4.c2;have HF:ax _:=H4;clear H4))
  all_goals
   go_wp2_with fail;go_meet
   case rel=>
    obtain⟨r1,r2,r3,r4,r5,r6,r7⟩:=H7.out;refine⟨_,y,lo,pl,cl,D6,tK,rfl,rfl,?_,fun e=>?_⟩
    ·first
      | exact HF.add _
      | exact HF.Mc _ _
    ·rw[aY e]at r3 r4
     refine⟨r1,r2,r3,r4,?_⟩;first
      | exact HA.1.un1 HP.out r5 r7 _
      | exact HA.1.un2 HP.out r5 r7 _ _
 obtain⟨U,y,lo,pl,cl,D6,tK,rfl,rfl,HF⟩:=hcut;cases h0:(ae != 0)
 ·obtain rfl:ae=0:=by simpa using h0
  go_wp2_with fail;go_ret2;obtain⟨rfl,rfl,r3,r4,r5⟩:=HF.2 (by trivial);have hF:=HF.1;exact U9 HA.1 HA.2 hF.low hF.tl.tl.c1 (y:=y) (lo:=lo) (pl:=pl) (cl:=cl) ⟨hF.c2.1.1,hF.c2.1.2⟩ r5 r3 r4 (HW.out (by trivial))
 ·go_wp2_with fail
  go_ret2;exact cF.no _ (by simpa using h0) HF.1.low
theorem Zu{s:Sy}(h:bV aS X S s L)(B:aE)(k:aF)(t:aA)(c1:X.cell? ⟨B,1,aN⟩=aO (aa ag k))(c2:X.cell? ⟨B,2,aN⟩=aO (ai t)):ay aP 87 #[aj (aO B)] X (ki aS S s L s (gz k t) X):=by
 have a1:=bj (aM #[aa ag 0,aa ag 0,ai ⟨#[]⟩,ah aN 0 0] 38) c1;have a2:=bj (aM #[aa ag 0,aa ag 0,ai ⟨#[]⟩,ah aN 0 0] 38) c2;have HS:ax (bV aS X S s L):=h;clear h c1 c2;go_enter func87,ntmps87;go_wp2;refine ba (v:=ar #[aa ag 0,aa ag k,ai t,ah aN 0 0]) (by simp[results,results87,go_sem]) rfl ?_;have hB:∀ o,au X X (X.alloc o):=fun o=>((Grown.refl X).alloc o).below
 exact⟨_,L,rfl,HS.bB (hB _),pG _ _ _ _,(hB _).mono (bc HS.aS.1 (bM HS.lt)),fun b hb=>hb,cA.dB _ (hB _),fun b hb=>.inl hb⟩
theorem Ze{s:Sy}(h:bV aS X S s L)(B:aE)(p:aC aJ)(c:aE)(bs:aB aA)(n:aE)(hn:n=bs.length)(c1:X.cell? B=aO (ah p n c))(hc:bs.length<=c)(hp:p=aN->c=0)(hL:St (Sp S s L) X (fun Y=>jy Y p bs))(l:aB (aB UInt8))(hl:bs.map (·.data.toList)=l):ay aP 86 #[aj (aO B)] X (ki aS S s L s ⟨0,0,⟨#[]⟩,l⟩ X):=by
 have a1:=bj (aM #[aa ag 0,aa ag 0,ai ⟨#[]⟩,ah aN 0 0] 38) c1;have HS:ax (bV aS X S s L/\n=bs.length/\bs.length<=c/\(p=aN->c=0)/\St (Sp S s L) X (fun Y=>jy Y p bs)/\bs.map (·.data.toList)=l):=⟨h,hn,hc,hp,hL,hl⟩
 clear h c1 hn hc hp hL hl;go_enter func86,ntmps86;go_wp2;refine ba (v:=ar #[aa ag 0,aa ag 0,ai ⟨#[]⟩,ah p n c]) (by simp[results,results86,go_sem]) rfl ?_;have hB:∀ o,au X X (X.alloc o):=fun o=>((Grown.refl X).alloc o).below
 obtain⟨h,hn,hc,hp,hL,hl⟩:=HS.out;subst hn;exact⟨_,L,rfl,h.bB (hB _),⟨p,c,bs,rfl,hl,hc,hp,hL.on (cA.dB _ (hB _))⟩,(hB _).mono (bc h.aS.1 (bM h.lt)),fun b hb=>hb,cA.dB _ (hB _),fun b hb=>.inl hb⟩
namespace PM
def Sy.uz(s:Sy)(way:aA):aF:=if ¬ (dV s.bA aI way).1=0 then(dV s.bA aI way).1 else if(bW s.bA (dV s.bA aI way).2).isSome then 0 else 6
def Sy.wX(s:Sy)(way:aA):An:=gz ((bW s.bA (dV s.bA aI way).2).getD cR).bE ((bW s.bA (dV s.bA aI way).2).getD cR).text
end PM
theorem TS{s:Sy}(h:bV aS W S s L)(hg:Gl aS W)(way:aA)(hw:way.size<=maxLen):ay aP 46 #[aj (aO S),ai way] W (cF aS S s L (s.uz way) s (s.wX way) W):=by
 obtain⟨m,hm⟩:=hg.2;have xF:=zl s.bA way aI W S L.ps L.sc m h.cells.2.2 h.data.now.bA (cY s.all) hw hm;have HA:ax (bV aS W S s L):=h;obtain⟨e,he⟩:=ee ((dV s.bA aI way).1)
 obtain⟨q,hq⟩:=ee ((dV s.bA aI way).2)
 have BV:q.length<=80:=by rw[hq];exact jI _ _ _
 unfold Sy.uz Sy.wX;rw[<- he,<- hq]at xF ⊢;clear hm he hq h hg;by_cases h0:e=0
 ·subst h0
  simp only[oH,pk];have mK:=fun(d:aA) (hd:d.data.toList=q) Y (hY:au W W Y)=>zH HA.out hY d (by have:=ix d;rw[hd]at this;unfold maxLen;omega) ((bW s.bA q).getD cR) (by rw[hd]) s.bA.length rfl
  obtain⟨sn,ik⟩:=ee s.bA.length
  have FM:ax (sn=s.bA.length):=ik;rw[<- ik]at mK;generalize (bW s.bA q).getD cR=x at mK ⊢;obtain⟨xp,xk,xt,xo⟩:=x;simp only at mK ⊢;clear ik;cases hb:(bW s.bA q).isSome with
  | false=>
   simp only[dI,pk];go_enter func46,ntmps46;go_wp2_with (first
    | (go_at_call 71;refine xF.mono ?_;clear xF;rintro r w3 ⟨d,rfl,hd,eG⟩;have ly:=mK d hd w3 eG;rw[hd,hb]at ly;clear mK;have c2:=(HA.bB eG).cells.2.2;rw[<- FM.out]at c2)
    | (go_at_call 76;refine ly.mono ?_;clear ly;rintro r w4 ⟨rfl,eO⟩))
   go_ret2;have hB:=Below.bK eG eO;exact cF.no _ (by decide) (hB.alloc hB.size _)
  | true=>
   simp only[mU];go_enter func46,ntmps46;go_wp2_with (first
    | (go_at_call 71;refine xF.mono ?_;clear xF;rintro r w3 ⟨d,rfl,hd,eG⟩;have ly:=mK d hd w3 eG;rw[hd,hb]at ly;clear mK;have c2:=(HA.bB eG).cells.2.2;rw[<- FM.out]at c2)
    | (go_at_call 76;refine ly.mono ?_;clear ly;rintro r w4 ⟨rfl,eO⟩))
   go_ret2;have hB:=Below.bK eG eO;have fA:=hB.alloc hB.size (aM #[ai xp,aa ag xk,ai xt,aq xo] 88);exact⟨_,rfl,fA,fun _=>⟨_,_,rfl,enters_of func87 (by kernel_rfl) rfl,Zu (HA.bB fA) w4.heap.size xk xt (by simp) (by simp)⟩⟩
 ·have hne:(e != 0)=aI:=by simpa using h0
  rw[aY h0];go_enter func46,ntmps46;go_wp2_with (go_at_call 71;refine xF.mono ?_;clear xF;rintro r w3 ⟨d,rfl,hd,eG⟩);go_ret2;exact cF.no _ h0 eG
theorem jy.st{sp:aE->Prop}{w:aw}{p:aC aJ}{bs:aB aA}(h:jy w p bs)(hn:∀ b off s,p=aO ⟨b,off,s⟩->¬ sp b):St sp w (fun Y=>jy Y p bs):=fun X hX=>by
 rcases h with h|⟨b,off,hp,hb,hc⟩
 ·exact .inl h
 ·exact .inr ⟨b,off,hp,aZ hb hX.size,fun j x hx=>(gY (hX.block b hb (hn b off aN hp)) _).trans (hc j x hx)⟩
namespace PM
def Sy.ug(s:Sy)(way:aA):aF:=if ¬ (dV s.bA aI way).1=0 then(dV s.bA aI way).1 else(l7 s.bA (dV s.bA aI way).2).2
def Sy.uf(s:Sy)(way:aA):An:=⟨0,0,⟨#[]⟩,(l7 s.bA (dV s.bA aI way).2).1⟩
end PM
theorem JO{s:Sy}(h:bV aS W S s L)(hg:Gl aS W)(way:aA)(hw:way.size<=maxLen):ay aP 45 #[aj (aO S),ai way] W (cF aS S s L (s.ug way) s (s.uf way) W):=by
 obtain⟨m,hm⟩:=hg.2;have xF:=zl s.bA way aI W S L.ps L.sc m h.cells.2.2 h.data.now.bA (cY s.all) hw hm;have HA:ax (bV aS W S s L):=h;obtain⟨e,he⟩:=ee ((dV s.bA aI way).1)
 obtain⟨q,hq⟩:=ee ((dV s.bA aI way).2)
 have BV:q.length<=80:=by rw[hq];exact jI _ _ _
 unfold Sy.ug Sy.uf;rw[<- he,<- hq]at xF ⊢;clear hm he hq h hg;by_cases h0:e=0
 ·subst h0
  simp only[oH,pk];have mK:=fun(d:aA) (hd:d.data.toList=q) Y (hY:au W W Y)=>I9 s.bA d L.ps L.sc Y (HA.bB hY).data.now.bA (Ft s) (cY s.all) (by have:=ix d;rw[hd]at this;unfold maxLen;omega)
  obtain⟨sn,ik⟩:=ee s.bA.length
  have FM:ax (sn=s.bA.length):=ik;rw[<- ik]at mK;clear ik;go_enter func45,ntmps45;go_wp2_with (first
   | (go_at_call 71;refine xF.mono ?_;clear xF;rintro r w3 ⟨d,rfl,hd,eG⟩;have ly:=mK d hd w3 eG;rw[hd]at ly;clear mK;have c2:=(HA.bB eG).cells.2.2;rw[<- FM.out]at c2)
   | (go_at_call 85;refine ly.mono ?_;clear ly;intro r w4 hE;obtain⟨p1,k1,JY,yP,rfl,tF,kT⟩:=jQ hE;clear hE))
  go_ret2;have hB:=Below.bK eG kT.out;have eO:=((Grown.refl w4).alloc (aM #[ah p1 k1 JY] 36)).below;have fA:=Below.bK hB eO;obtain⟨Nt,hS1,J9⟩:=tF.out;subst Nt;obtain⟨p2,c2',hv,hLS,ir,iR,sZ⟩:=hS1.yZ;injection hv with e1 e2 e3
  subst e1 e3;refine⟨_,rfl,fA,fun _=>⟨_,_,rfl,enters_of func86 (by kernel_rfl) rfl,Ze (HA.bB fA) w4.heap.size _ _ yP _ rfl (by simp) ir iR (St.on (jy.st hLS (fun b off s' e qt=>?_)) (cA.dB _ eO)) _ J9⟩⟩;have h1:=sZ b off s' e;have h2:=(HA.od qt).2;have h3:=eG.size;omega
 ·have hne:(e != 0)=aI:=by simpa using h0
  rw[aY h0];go_enter func45,ntmps45;go_wp2_with (go_at_call 71;refine xF.mono ?_;clear xF;rintro r w3 ⟨d,rfl,hd,eG⟩);go_ret2;exact cF.no _ h0 eG
theorem St.aside{s:Sy}{F:aw->Prop}(h:St (Sp S s L) W F)(o:Obj):St (Sp S s { L with ex:=fun b=>b=W.heap.size\/L.ex b }) (W.alloc o) F:=fun Y hY=>by
 have hB:au W W (W.alloc o):=((Grown.refl W).alloc _).below;exact h Y ⟨bc hB.size hY.size,fun b hb hn=>(hY.block b (aZ hb hB.size) (fun hs=>hn (by
   rcases hs with(rfl|(rfl|hx))|hs
   ·exact .inl (.inl rfl)
   ·omega
   ·exact .inl (.inr hx)
   ·exact .inr hs))).trans (hB.block b hb)⟩
theorem Sp.UI{s:Sy}{g:Fl->Fl}{l:aB aE}{b:aE}:Sp S (s.jS g l) L b↔Sp S s L b:=by simp[Sp,Sy.jS]
theorem St.sp{sp sp':aE->Prop}{W:aw}{F:aw->Prop}(h:St sp W F)(hs:∀ b,sp' b->sp b):St sp' W F:=h.more fun b _ hb=>hs b hb
theorem bV.tW{s:Sy}(h:bV aS W S s L)(hB:W<=B):¬ Sp S s L B:=fun hb=>aG (h.od hb).2 (by omega)
theorem kO.UI(s:Sy)(g:Fl->Fl)(l:aB aE)(a:aB bP)(b:aB (aB bP)):kO s ((s.jS g l).di a b):=⟨rfl,by simp[Sy.jS,Sy.di]⟩
theorem Tz{s:Sy}(h:bV aS X S s L)(hg:Gl aS X)(B0 B1 B2:aE)(zO:X.cell? B0=aO (aj (aO S)))(q:aA)(Qs:X.cell? B1=aO (ai q))(WV:¬ Sp S s L B0)(zM:¬ Sp S s L B1)(rB:¬ Sp S s L B2)(y:Lay)(lo:aB Lay)(pl:aC aJ)(cl:aE)(si:uE X B2 y lo pl cl)(hU:St (Sp S s L) X (fun X=>eZ X y lo pl cl))(h0:(bH (y.es::lo.map (·.es))).1=0)(iL:∀ i∈s.cr,∀ f,s.bh[i]?=aO f->f.bm.size<=80):ay aP 80 #[aj (aO B0),aj (aO B1),aj (aO B2)] X (ki aS S s L ((s.anN q).di y.es (lo.map (·.es))) (gz 0 ⟨#[]⟩) X):=by
 obtain⟨c0,c1⟩:=si;have eD:aS<=X.heap.size:=bc h.aS.1 (bM h.lt);obtain⟨L1,lj⟩:=ee ({ L with ex:=fun b=>b=X.heap.size\/L.ex b }:im)
 obtain⟨X1,yD⟩:=o7 (X.alloc (aM #[aa ag 0,aa ag 0,ai ⟨#[]⟩,ah aN 0 0] 38))
 have fg:au X X X1:=by rw[<- yD];exact((Grown.refl X).alloc _).below
 have h1:=h.aside (aM #[aa ag 0,aa ag 0,ai ⟨#[]⟩,ah aN 0 0] 38);have zN:=St.aside hU (aM #[aa ag 0,aa ag 0,ai ⟨#[]⟩,ah aN 0 0] 38);rw[yD,<- lj]at h1 zN;have tJ:L1.ex X.heap.size:=by rw[lj];exact .inl rfl
 have ID:X1.heap[X.heap.size]?=aO (aM #[aa ag 0,aa ag 0,ai ⟨#[]⟩,ah aN 0 0] 38):=by rw[<- yD];exact heap_alloc_last X _
 have Gi:∀ b,b<X.heap.size->Sp S s L1 b->Sp S s L b:=by
  rintro b hb hs;rw[lj]at hs;rcases hs with(rfl|(rfl|hx))|hs
  ·exact .inl (.inl rfl)
  ·omega
  ·exact .inl (.inr hx)
  ·exact .inr hs
 have hrel:=Bj h1 q iL;have HA:ax (bV aS X1 S s L1/\Gl aS X1/\St (Sp S s L1) X1 (fun X=>eZ X y lo pl cl)/\(bH (y.es::lo.map (·.es))).1=0/\au aS X X1/\L1.ex X.heap.size/\X1.heap[X.heap.size]?=aO (aM #[aa ag 0,aa ag 0,ai ⟨#[]⟩,ah aN 0 0] 38)/\S<X.heap.size/\¬ Fb s L1 X.heap.size):=⟨h1,hg.bB (fg.mono eD),zN,h0,fg.mono eD,tJ,ID,h.lt,fun⟨i,hi,e⟩=>by rw[lj]at e;have e:X.heap.size=L.fb i:=e;have:=h.BL hi;omega⟩
 have l0:=bg zO;have l1:=bg Qs;have l2:=bg c0;simp only at l0 l1 l2;have HK:ax (∀ X2,cA (Sp S s L1) X1 X2->X2.cell? B0=aO (aj (aO S))/\X2.cell? B2=aO (ah y.ad y.es.length y.cap)/\X2.cell? ⟨B2,1,aN⟩=aO (ah pl lo.length cl)):=by show ∀ X2,_;intro X2 hk;have f0:X2.heap[B0]?=X.heap[B0]?:=(hk.block B0 (aZ l0 fg.size) (fun hs=>WV (Gi _ l0 hs))).trans (fg.block _ l0);have f2:X2.heap[B2]?=X.heap[B2]?:=(hk.block B2 (aZ l2 fg.size) (fun hs=>rB (Gi _ l2 hs))).trans (fg.block _ l2);exact⟨(gY f0 0).trans zO,(gY f2 0).trans c0,(gY f2 1).trans c1⟩
 have a0:=bj (aM #[aa ag 0,aa ag 0,ai ⟨#[]⟩,ah aN 0 0] 38) zO;have a1:=bj (aM #[aa ag 0,aa ag 0,ai ⟨#[]⟩,ah aN 0 0] 38) Qs;have HE:ax (X.alloc (aM #[aa ag 0,aa ag 0,ai ⟨#[]⟩,ah aN 0 0] 38)=X1):=yD;have G4:ax (au X X X1/\L1.ex=(fun b=>b=X.heap.size\/L.ex b)/\L1.fb=L.fb/\L1.ob=L.ob):=⟨fg,by rw[lj],by rw[lj],by rw[lj]⟩
 rw[<- yD]at hrel;clear h hg hU h0 fg h1 zN yD zO Qs c0 c1 iL tJ ID Gi lj WV zM rB l0 l1 l2;obtain⟨yn,ku⟩:=ee y.es.length
 obtain⟨ln,ka⟩:=ee lo.length
 have HN:ax (yn=y.es.length/\ln=lo.length):=⟨ku,ka⟩
 rw[<- ku,<- ka]at HK;clear ku ka;go_enter func80,ntmps80;go_wp2_with (first
  | (go_at_call 81;refine hrel.mono ?_;clear hrel;rintro r X2 ⟨rfl,CW,fC,j4⟩;rw[HE.out]at fC j4;obtain⟨t0,t1,t2⟩:=HK.out X2 (j4.pw fun b hb=>.inr (.inr hb));have kQ:=pU CW (HA.2.1.bB fC) y lo pl cl ((HA.2.2.1.on (j4.pw fun b hb=>.inr (.inr hb))).sp fun b hb=>Sp.UI.1 hb) HA.2.2.2.1;rw[<- HN.1,<- HN.2]at kQ;have H2:ax (au aS X X2/\X2.heap[X.heap.size]?=aO (aM #[aa ag 0,aa ag 0,ai ⟨#[]⟩,ah aN 0 0] 38)/\cA (Fb s L1) X1 X2):=⟨HA.2.2.2.2.1.trans fC,(j4.block _ (aX.1 HA.2.2.2.2.2.2.1).1 HA.2.2.2.2.2.2.2.2).trans HA.2.2.2.2.2.2.1,j4⟩;clear CW fC j4)
  | (go_at_call 74;refine kQ.mono ?_;clear kQ;rintro r X3 ⟨rfl,CZ⟩;obtain⟨L3,WS,ho3,R5,D3,zf,Cn⟩:=CZ;have kV:X3.heap[X.heap.size]?=aO (aM #[aa ag 0,aa ag 0,ai ⟨#[]⟩,ah aN 0 0] 38):=(Cn.block _ (aX.1 H2.2.1).1 (fun e=>by have:=HA.2.2.2.2.2.2.2.1;omega)).trans H2.2.1;have H3:ax (Mid aS S s L ((s.anN q).di y.es (lo.map (·.es))) L3 X X3):=⟨WS,⟨ho3.trans G4.2.2.2,R5.trans G4.2.2.1,fun b=>(by rw[D3,G4.2.1])⟩,H2.1.trans zf,(cA.LF G4.1 H2.2.2 (fun b ⟨i,hi,e⟩=>.inr (.inr ⟨i,hi,by rw[<- G4.2.2.1];exact e⟩))).trans (Cn.pw fun b hb=>.inl hb),kV⟩;obtain⟨⟨d0,d1,d2,d3⟩,z0,z1,z2,z3⟩:=cK kV;clear WS D3 zf Cn kV))
 refine ba (v:=ar #[aa ag 0,aa ag 0,ai ⟨#[]⟩,ah aN 0 0]) (by simp[results,results80,go_sem,d0,d1,d2,d3]) rfl ?_;exact H3.fin (kO.UI _ _ _ _ _) _ _ _ _ (fun W=>pG _ _ _ _)
namespace PM
theorem ym{s s':Sy}(h1:s'.fds=s.fds)(h2:s'.bJ=s.bJ):∀ k,s'.eH k=s.eH k
 | 0=>rfl
 | k+1=>by
  have h3:∀ j,s'.anK j=s.anK j:=fun j=>by rw[Sy.anK,Sy.anK,h2]
  rw[Sy.eH,Sy.eH,h1,ym h1 h2 k];cases s.fds k with
  | none=>rfl
  | some j=>simp only[h3]
def Sy.anS(s:Sy)(fr q:aA):Sy:=if fr.data.toList=q.data.toList then s.carry fr q else(s.anN q).carry fr q
theorem Tu{s:Sy}{q:aA}(h:∀ i∈s.cr,∀ f,s.bh[i]?=aO f->f.bm.size<=80):∀ i∈(s.anN q).cr,∀ f,(s.anN q).bh[i]?=aO f->f.bm.size<=80:=by
 intro i hi f hf;rw[show(s.anN q).cr=s.cr from ym rfl rfl 32]at hi;have hf:(s.bh.mapIdx fun i f=>if i∈s.cr then s.oG q f else f)[i]?=aO f:=hf;rw[bO]at hf;cases hg:s.bh[i]? with
 | none=>rw[hg]at hf;cases hf
 | some g=>
  rw[hg]at hf;have h1:=h i hi g hg;simp only[dF,aY hi,dt]at hf;rw[<- hf,Sy.oG];split
  ·show(ByteArray.mk #[]).size<=80;decide
  ·exact h1
end PM
theorem kO.ren(s:Sy)(fr q:aA)(a:aB bP)(b:aB (aB bP)):kO s ((s.anS fr q).di a b):=by
 unfold Sy.anS;split
 ·exact kO.UI _ _ _ _ _
 ·exact⟨rfl,by simp[Sy.carry,Sy.anN,Sy.jS,Sy.di]⟩
theorem X7{s:Sy}{g:Fl->Fl}{l:aB aE}{b:aE}(h:Fb (s.jS g l) L b):Fb s L b:=by simpa[Fb,Sy.jS]using h
theorem TB{s:Sy}(h:bV aS X S s L)(hg:Gl aS X)(B0 B1 B2 Bf:aE)(zO:X.cell? B0=aO (aj (aO S)))(fr q:aA)(rR:fr.size<=80)(BV:q.size<=80)(Nl:X.cell? Bf=aO (ai fr))(hNf:¬ Sp S s L Bf)(Qs:X.cell? B1=aO (ai q))(WV:¬ Sp S s L B0)(zM:¬ Sp S s L B1)(rB:¬ Sp S s L B2)(y:Lay)(lo:aB Lay)(pl:aC aJ)(cl:aE)(si:uE X B2 y lo pl cl)(hU:St (Sp S s L) X (fun X=>eZ X y lo pl cl))(h0:(bH (y.es::lo.map (·.es))).1=0)(iL:∀ i∈s.cr,∀ f,s.bh[i]?=aO f->f.bm.size<=80):ay aP 83 #[aj (aO Bf),aj (aO B1),aj (aO B0),aj (aO B2)] X (ki aS S s L ((s.anS fr q).di y.es (lo.map (·.es))) (gz 0 ⟨#[]⟩) X):=by
 obtain⟨c0,c1⟩:=si;have eD:aS<=X.heap.size:=bc h.aS.1 (bM h.lt);obtain⟨L1,lj⟩:=ee ({ L with ex:=fun b=>b=X.heap.size\/L.ex b }:im)
 obtain⟨X1,yD⟩:=o7 (X.alloc (aM #[aa ag 0,aa ag 0,ai ⟨#[]⟩,ah aN 0 0] 38))
 have fg:au X X X1:=by rw[<- yD];exact((Grown.refl X).alloc _).below
 have h1:=h.aside (aM #[aa ag 0,aa ag 0,ai ⟨#[]⟩,ah aN 0 0] 38);have zN:=St.aside hU (aM #[aa ag 0,aa ag 0,ai ⟨#[]⟩,ah aN 0 0] 38);rw[yD,<- lj]at h1 zN;have tJ:L1.ex X.heap.size:=by rw[lj];exact .inl rfl
 have ID:X1.heap[X.heap.size]?=aO (aM #[aa ag 0,aa ag 0,ai ⟨#[]⟩,ah aN 0 0] 38):=by rw[<- yD];exact heap_alloc_last X _
 have Gi:∀ b,b<X.heap.size->Sp S s L1 b->Sp S s L b:=by
  rintro b hb hs;rw[lj]at hs;rcases hs with(rfl|(rfl|hx))|hs
  ·exact .inl (.inl rfl)
  ·omega
  ·exact .inl (.inr hx)
  ·exact .inr hs
 have hrel:=Bj h1 q iL;have Nn:=EK h1 fr q rR BV iL;have HZ:ax (∀ i∈s.cr,∀ f,s.bh[i]?=aO f->f.bm.size<=80):=iL;have HA:ax (bV aS X1 S s L1/\Gl aS X1/\St (Sp S s L1) X1 (fun X=>eZ X y lo pl cl)/\(bH (y.es::lo.map (·.es))).1=0/\au aS X X1/\L1.ex X.heap.size/\X1.heap[X.heap.size]?=aO (aM #[aa ag 0,aa ag 0,ai ⟨#[]⟩,ah aN 0 0] 38)/\S<X.heap.size/\¬ Fb s L1 X.heap.size):=⟨h1,hg.bB (fg.mono eD),zN,h0,fg.mono eD,tJ,ID,h.lt,fun⟨i,hi,e⟩=>by rw[lj]at e;have e:X.heap.size=L.fb i:=e;have:=h.BL hi;omega⟩
 have l0:=bg zO;have l1:=bg Qs;have lf:=bg Nl;have l2:=bg c0;simp only at l0 l1 l2 lf;have HK:ax (∀ X2,cA (Sp S s L1) X1 X2->X2.cell? B0=aO (aj (aO S))/\X2.cell? B2=aO (ah y.ad y.es.length y.cap)/\X2.cell? ⟨B2,1,aN⟩=aO (ah pl lo.length cl)/\X2.cell? B1=aO (ai q)/\X2.cell? Bf=aO (ai fr)):=by show ∀ X2,_;intro X2 hk;have f0:X2.heap[B0]?=X.heap[B0]?:=(hk.block B0 (aZ l0 fg.size) (fun hs=>WV (Gi _ l0 hs))).trans (fg.block _ l0);have f2:X2.heap[B2]?=X.heap[B2]?:=(hk.block B2 (aZ l2 fg.size) (fun hs=>rB (Gi _ l2 hs))).trans (fg.block _ l2);have f1:X2.heap[B1]?=X.heap[B1]?:=(hk.block B1 (aZ l1 fg.size) (fun hs=>zM (Gi _ l1 hs))).trans (fg.block _ l1);have ff:X2.heap[Bf]?=X.heap[Bf]?:=(hk.block Bf (aZ lf fg.size) (fun hs=>hNf (Gi _ lf hs))).trans (fg.block _ lf);exact⟨(gY f0 0).trans zO,(gY f2 0).trans c0,(gY f2 1).trans c1,(gY f1 0).trans Qs,(gY ff 0).trans Nl⟩
 have a0:=bj (aM #[aa ag 0,aa ag 0,ai ⟨#[]⟩,ah aN 0 0] 38) zO;have a1:=bj (aM #[aa ag 0,aa ag 0,ai ⟨#[]⟩,ah aN 0 0] 38) Qs;have af:=bj (aM #[aa ag 0,aa ag 0,ai ⟨#[]⟩,ah aN 0 0] 38) Nl;have HE:ax (X.alloc (aM #[aa ag 0,aa ag 0,ai ⟨#[]⟩,ah aN 0 0] 38)=X1):=yD;have G4:ax (au X X X1/\L1.ex=(fun b=>b=X.heap.size\/L.ex b)/\L1.fb=L.fb/\L1.ob=L.ob):=⟨fg,by rw[lj],by rw[lj],by rw[lj]⟩
 rw[<- yD]at hrel Nn;clear h hg hU h0 fg h1 zN yD zO Qs Nl c0 c1 iL tJ ID Gi lj WV zM rB hNf l0 l1 l2 lf;obtain⟨yn,ku⟩:=ee y.es.length
 obtain⟨ln,ka⟩:=ee lo.length
 have HN:ax (yn=y.es.length/\ln=lo.length):=⟨ku,ka⟩
 rw[<- ku,<- ka]at HK;clear ku ka;by_cases heq:fr.data.toList=q.data.toList
 ·have hq1:(fr.toList == q.toList)=aI:=by rw[bq,bq,heq];simp
  have RN:∀ {X3 L3},bV aS X3 S ((s.carry fr q).di y.es (lo.map (·.es))) L3->bV aS X3 S ((s.anS fr q).di y.es (lo.map (·.es))) L3:=by intro X3 L3 h;rw[Sy.anS,aY heq];exact h
  have K3:=Nn;clear Nn hrel;go_enter func83,ntmps83;go_wp2_with (first
   | (go_at_call 84;refine K3.mono ?_;clear K3;rintro r X2 ⟨rfl,CW,fC,j4⟩;rw[HE.out]at fC j4;obtain⟨t0,t1,t2,t3,t4⟩:=HK.out X2 (j4.pw fun b hb=>.inr (.inr hb));have kQ:=pU CW (HA.2.1.bB fC) y lo pl cl ((HA.2.2.1.on (j4.pw fun b hb=>.inr (.inr hb))).sp fun b hb=>Sp.UI.1 hb) HA.2.2.2.1;rw[<- HN.1,<- HN.2]at kQ;have H2:ax (au aS X X2/\X2.heap[X.heap.size]?=aO (aM #[aa ag 0,aa ag 0,ai ⟨#[]⟩,ah aN 0 0] 38)/\cA (Fb s L1) X1 X2):=⟨HA.2.2.2.2.1.trans fC,(j4.block _ (aX.1 HA.2.2.2.2.2.2.1).1 HA.2.2.2.2.2.2.2.2).trans HA.2.2.2.2.2.2.1,j4⟩;clear CW fC j4)
   | (go_at_call 74;refine kQ.mono ?_;clear kQ;rintro r X3 ⟨rfl,CZ⟩;obtain⟨L3,WS,ho3,R5,D3,zf,Cn⟩:=CZ;have kV:X3.heap[X.heap.size]?=aO (aM #[aa ag 0,aa ag 0,ai ⟨#[]⟩,ah aN 0 0] 38):=(Cn.block _ (aX.1 H2.2.1).1 (fun e=>by have:=HA.2.2.2.2.2.2.2.1;omega)).trans H2.2.1;have H3:ax (Mid aS S s L ((s.anS fr q).di y.es (lo.map (·.es))) L3 X X3):=⟨RN WS,⟨ho3.trans G4.2.2.2,R5.trans G4.2.2.1,fun b=>(by rw[D3,G4.2.1])⟩,H2.1.trans zf,(cA.LF G4.1 H2.2.2 (fun b ⟨i,hi,e⟩=>.inr (.inr ⟨i,hi,by rw[<- G4.2.2.1];exact e⟩))).trans (Cn.pw fun b hb=>.inl hb),kV⟩;obtain⟨⟨d0,d1,d2,d3⟩,z0,z1,z2,z3⟩:=cK kV;clear WS D3 zf Cn kV))
  refine ba (v:=ar #[aa ag 0,aa ag 0,ai ⟨#[]⟩,ah aN 0 0]) (by simp[results,results83,go_sem,d0,d1,d2,d3]) rfl ?_;exact H3.fin (kO.ren _ _ _ _ _) _ _ _ _ (fun W=>pG _ _ _ _)
 ·have hq1:(fr.toList == q.toList)=aH:=by rw[bq,bq];simpa using heq
  have RN:∀ {X3 L3},bV aS X3 S (((s.anN q).carry fr q).di y.es (lo.map (·.es))) L3->bV aS X3 S ((s.anS fr q).di y.es (lo.map (·.es))) L3:=by intro X3 L3 h;rw[Sy.anS,aW heq];exact h
  clear Nn;go_enter func83,ntmps83;go_wp2_with (first
   | (go_at_call 81;refine hrel.mono ?_;clear hrel;rintro r Xr ⟨rfl,hAr,xq,hkr⟩;rw[HE.out]at xq hkr;obtain⟨t0',t1',t2',t3',t4'⟩:=HK.out Xr (hkr.pw fun b hb=>.inr (.inr hb));have K3:=EK hAr fr q rR BV (Tu HZ.out))
   | (go_at_call 84;refine K3.mono ?_;clear K3;rintro r X2 ⟨rfl,CW,fC,j4⟩;have vg:=xq.trans fC;have tH:=hkr.trans (j4.pw fun b hb=>X7 hb);obtain⟨t0,t1,t2,t3,t4⟩:=HK.out X2 (tH.pw fun b hb=>.inr (.inr hb));have kQ:=pU CW (HA.2.1.bB vg) y lo pl cl ((HA.2.2.1.on (tH.pw fun b hb=>.inr (.inr hb))).sp fun b hb=>Sp.UI.1 (Sp.UI.1 hb)) HA.2.2.2.1;rw[<- HN.1,<- HN.2]at kQ;have H2:ax (au aS X X2/\X2.heap[X.heap.size]?=aO (aM #[aa ag 0,aa ag 0,ai ⟨#[]⟩,ah aN 0 0] 38)/\cA (Fb s L1) X1 X2):=⟨HA.2.2.2.2.1.trans vg,(tH.block _ (aX.1 HA.2.2.2.2.2.2.1).1 HA.2.2.2.2.2.2.2.2).trans HA.2.2.2.2.2.2.1,tH⟩;clear CW fC j4)
   | (go_at_call 74;refine kQ.mono ?_;clear kQ;rintro r X3 ⟨rfl,CZ⟩;obtain⟨L3,WS,ho3,R5,D3,zf,Cn⟩:=CZ;have kV:X3.heap[X.heap.size]?=aO (aM #[aa ag 0,aa ag 0,ai ⟨#[]⟩,ah aN 0 0] 38):=(Cn.block _ (aX.1 H2.2.1).1 (fun e=>by have:=HA.2.2.2.2.2.2.2.1;omega)).trans H2.2.1;have H3:ax (Mid aS S s L ((s.anS fr q).di y.es (lo.map (·.es))) L3 X X3):=⟨RN WS,⟨ho3.trans G4.2.2.2,R5.trans G4.2.2.1,fun b=>(by rw[D3,G4.2.1])⟩,H2.1.trans zf,(cA.LF G4.1 H2.2.2 (fun b ⟨i,hi,e⟩=>.inr (.inr ⟨i,hi,by rw[<- G4.2.2.1];exact e⟩))).trans (Cn.pw fun b hb=>.inl hb),kV⟩;obtain⟨⟨d0,d1,d2,d3⟩,z0,z1,z2,z3⟩:=cK kV;clear WS D3 zf Cn kV))
  refine ba (v:=ar #[aa ag 0,aa ag 0,ai ⟨#[]⟩,ah aN 0 0]) (by simp[results,results83,go_sem,d0,d1,d2,d3]) rfl ?_;exact H3.fin (kO.ren _ _ _ _ _) _ _ _ _ (fun W=>pG _ _ _ _)
theorem Zq{s:Sy}(h:bV aS X S s L)(Bn Bo:aE)(n:aF)(j:aE)(o:qI)(ho:s.bJ[j]?=aO o)(Hc:X.cell? Bn=aO (aa ag n))(F8:X.cell? Bo=aO (aj (aO ⟨L.ob j,0,aN⟩))):ay aP 140 #[aj (aO Bn),aj (aO Bo)] X (ki aS S s L (s.jw j { o with pos:=n }) (gz 0 ⟨#[]⟩) X):=by
 have a0:=bj (aM #[aa ag 0,aa ag 0,ai ⟨#[]⟩,ah aN 0 0] 38) Hc;have a1:=bj (aM #[aa ag 0,aa ag 0,ai ⟨#[]⟩,ah aN 0 0] 38) F8;obtain⟨⟨_,_,c2⟩,f2⟩:=h.oW ho;have gm:=h.Cs (aQ.1 ho).1;have n1:¬ L.ob j=X.heap.size:=by omega
 have n2:¬ X.heap.size=L.ob j:=by omega
 have HS:ax (bV aS X S s L/\s.bJ[j]?=aO o):=⟨h,ho⟩
 clear h Hc F8 ho;go_enter func140,ntmps140;go_wp2;refine ba (v:=ar #[aa ag 0,aa ag 0,ai ⟨#[]⟩,ah aN 0 0]) (by simp[results,results140,go_sem]) rfl ?_;obtain⟨h,ho⟩:=HS.out;have hb:=(nh (h.opn j o ho) (aa ag n)).2.2;have h2:=h.Gv (o':={ o with pos:=n }) ho rfl (cA.set (sp:=(·=L.ob j)) rfl _ 2 (aa ag n)) hb;have hB:∀ (Z:aw) o,au Z.heap.size Z (Z.alloc o):=fun Z o=>((Grown.refl Z).alloc o).below
 have si:au aS X (X.setCell ⟨L.ob j,2,aN⟩ (aa ag n)):=(aR _ _).setCell (p:=⟨L.ob j,2,aN⟩) (h.aS.2.1 j (aQ.1 ho).1) _;exact⟨_,L,rfl,h2.bB (hB _ _),pG _ _ _ _,si.trans ((hB _ _).mono (bc h2.aS.1 (bM h2.lt))),fun b hb=>hb,(cA.set (.inr (.inl ⟨j,(aQ.1 ho).1,rfl⟩)) _ 2 _).trans (cA.dB _ (hB _ _)),fun b hb=>.inl (by simpa[Sp,Sy.jw]using hb)⟩
namespace PM
def o5(n:aF):aF:=if n<0\/1000<n then 3 else 0
end PM
theorem TK{s:Sy}(h:bV aS W S s L)(n:aF)(j:aE)(o:qI)(ho:s.bJ[j]?=aO o):ay aP 90 #[aj (aO ⟨L.ob j,0,aN⟩),aa ag n] W (cF aS S s L (o5 n) (s.jw j { o with pos:=n }) (gz 0 ⟨#[]⟩) W):=by
 have HS:ax (bV aS W S s L/\s.bJ[j]?=aO o):=⟨h,ho⟩
 have HB:ax (au W W ((W.alloc (aM #[aj (aO ⟨L.ob j,0,aN⟩)] 44)).alloc (aM #[aa ag n] 3))):=((aR _ _).alloc (aV _) _).alloc (by simp) _;clear h ho;unfold o5;by_cases h1:n<0
 ·rw[aY (.inl h1)]
  go_enter func90,ntmps90;go_wp2;go_ret2;exact cF.no _ (by decide) HB.out
 by_cases h2:1000<n
 ·rw[aY (.inr h2)]
  go_enter func90,ntmps90;go_wp2;go_ret2;exact cF.no _ (by decide) HB.out
 rw[aW (by omega)];go_enter func90,ntmps90;go_wp2;go_ret2;exact⟨_,rfl,HB.out,fun _=>⟨_,_,rfl,enters_of func140 (by kernel_rfl) rfl,Zq (HS.1.bB HB.out) (W.heap.size+1) W.heap.size n j o HS.2 (by simp) (by simp)⟩⟩
theorem Rj{s:Sy}(h:bV aS X S s L)(Bo Bp Bf o k j:aE)(zg:o<4)(Ej:k<8)(hj:j<s.bJ.length)(F8:X.cell? Bo=aO (aj (aO ⟨L.ob j,0,aN⟩)))(hbp:X.cell? Bp=aO (aj (aO ⟨S,3+o*8,aN⟩)))(Nl:X.cell? Bf=aO (aa ag k))(Yh:¬ S=Bo)(hNp:¬ S=Bp)(hNf:¬ S=Bf):ay aP 139 #[aj (aO Bo),aj (aO Bp),aj (aO Bf)] X (ki aS S s L (s.dL (o*8+k) (aO j)) (gz k ⟨#[]⟩) X):=by
 have a0:=bj (aM #[aa ag 0,aa ag 0,ai ⟨#[]⟩,ah aN 0 0] 38) F8;have a1:=bj (aM #[aa ag 0,aa ag 0,ai ⟨#[]⟩,ah aN 0 0] 38) hbp;have a2:=bj (aM #[aa ag 0,aa ag 0,ai ⟨#[]⟩,ah aN 0 0] 38) Nl;have He:(k:aF)<8:=by omega
 have c3:=h.fd (k:=o*8+k) (by omega);have c3:X.cell? ⟨S,3+o*8+k,aN⟩=aO (aj ((s.fds (o*8+k)).map fun j=>⟨L.ob j,0,aN⟩)):=by rw[dh];exact c3
 have f3:=h.EW (3+o*8+k);have a3:=bj (aM #[aa ag 0,aa ag 0,ai ⟨#[]⟩,ah aN 0 0] 38) c3;have gm:=h.lt;have n1:¬ S=X.heap.size:=by omega
 have n2:¬ X=S:=by omega
 have HS:ax (bV aS X S s L):=h;clear h;go_enter func139,ntmps139;go_wp2;go_region_held3 (fun w'=>w'.cell? Bo=aO (aj (aO ⟨L.ob j,0,aN⟩))/\w'.cell? Bp=aO (aj (aO ⟨S,3+o*8,aN⟩))/\w'.cell? Bf=aO (aa ag k)) (go_keep) (fail);have hlf:=bg Nl;simp only at hlf;have H2:ax (∃ L2,bV aS ((X.setCell ⟨S,3+o*8+k,aN⟩ (aj (aO ⟨L.ob j,0,aN⟩))).alloc (aM #[aa ag 0,aa ag 0,ai ⟨#[]⟩,ah aN 0 0] 38)).drew S (s.dL (o*8+k) (aO j)) L2/\CC L L2 X):=by have h1:=HS.number (k:=o*8+k) (by omega) (aO j) (fun x hx=>by cases hx;exact hj) (aj (aO ⟨L.ob j,0,aN⟩)) rfl;rw[<- dh]at h1;have h2:=h1.aside (aM #[aa ag 0,aa ag 0,ai ⟨#[]⟩,ah aN 0 0] 38);exact⟨_,h2.bB (aR _ _).drew,⟨rfl,rfl,fun b=>by simp[World.setCell]⟩⟩
 have fC:ax (au aS X ((X.setCell ⟨S,3+o*8+k,aN⟩ (aj (aO ⟨L.ob j,0,aN⟩))).alloc (aM #[aa ag 0,aa ag 0,ai ⟨#[]⟩,ah aN 0 0] 38)).drew):=by have h1:=(aR aS X).setCell (p:=⟨S,3+o*8+k,aN⟩) HS.aS.1 (aj (aO ⟨L.ob j,0,aN⟩));exact(h1.alloc (bc (bc HS.aS.1 (bM gm)) h1.size) _).drew
 have XG:ax (cA (rv S s L) X ((X.setCell ⟨S,3+o*8+k,aN⟩ (aj (aO ⟨L.ob j,0,aN⟩))).alloc (aM #[aa ag 0,aa ag 0,ai ⟨#[]⟩,ah aN 0 0] 38)).drew):=(cA.set (.inl rfl) _ _ _).trans (cA.dB _ (((Grown.refl _).alloc _).below.drew));have kV:((X.setCell ⟨S,3+o*8+k,aN⟩ (aj (aO ⟨L.ob j,0,aN⟩))).alloc (aM #[aa ag 0,aa ag 0,ai ⟨#[]⟩,ah aN 0 0] 38)).drew.heap[X.heap.size]?=aO (aM #[aa ag 0,aa ag 0,ai ⟨#[]⟩,ah aN 0 0] 38):=by
  have:=heap_alloc_last (X.setCell ⟨S,3+o*8+k,aN⟩ (aj (aO ⟨L.ob j,0,aN⟩))) (aM #[aa ag 0,aa ag 0,ai ⟨#[]⟩,ah aN 0 0] 38)
  rwa [show(X.setCell ⟨S,3+o*8+k,aN⟩ (aj (aO ⟨L.ob j,0,aN⟩))).heap.size=X from by simp[World.setCell]]at this
 have akt:((X.setCell ⟨S,3+o*8+k,aN⟩ (aj (aO ⟨L.ob j,0,aN⟩))).alloc (aM #[aa ag 0,aa ag 0,ai ⟨#[]⟩,ah aN 0 0] 38)).drew.cell? Bf=aO (aa ag k):=by refine(gY ?_ 0).trans Nl;exact(((Grown.refl _).alloc _).below.block Bf (by simp[World.setCell];exact hlf)).trans (cI _ _ _ _ (fun e=>hNf e.symm))
 generalize ((X.setCell ⟨S,3+o*8+k,aN⟩ (aj (aO ⟨L.ob j,0,aN⟩))).alloc (aM #[aa ag 0,aa ag 0,ai ⟨#[]⟩,ah aN 0 0] 38)).drew=Z at *;obtain⟨⟨d0,d1,d2,d3⟩,z0,z1,z2,z3⟩:=cK kV;have HK:ax (Z.heap[X.heap.size]?=aO (aM #[aa ag 0,aa ag 0,ai ⟨#[]⟩,ah aN 0 0] 38)):=kV;clear kV a0 a1 a2 a3 F8 hbp Nl c3 f3;go_wp2;refine ba (v:=ar #[aa ag 0,aa ag k,ai ⟨#[]⟩,ah aN 0 0]) (by simp[results,results139,go_sem,d0,d1,d2,d3]) rfl ?_;obtain⟨L2,q1,q2⟩:=H2.out;exact Mid.fin (L':=L2) ⟨q1,q2,fC.out,XG.out,HK.out⟩ ⟨rfl,rfl⟩ _ _ _ _ (fun W=>pG _ _ _ _)
theorem KH{s:Sy}(h:bV aS W S s L)(o j:aE)(zg:o<4)(hj:j<s.bJ.length):ay aP 89 #[aj (aO ⟨S,3+o*8,aN⟩),aj (aO ⟨L.ob j,0,aN⟩)] W (cF aS S s L (if s.eF o<0 then 5 else 0) (s.dL (o*8+(s.eF o).toNat) (aO j)) (gz (s.eF o) ⟨#[]⟩) W):=by
 obtain⟨W2,xD⟩:=o7 ((W.alloc (aM #[aj (aO ⟨S,3+o*8,aN⟩)] 133)).alloc (aM #[aj (aO ⟨L.ob j,0,aN⟩)] 44))
 have fC:au W W W2:=by rw[<- xD];exact((aR _ _).alloc (aV _) _).alloc (by simp) _
 have BX:W2.heap.size=W.heap.size+2:=by rw[<- xD];simp
 have rR:=wJ (h.bB fC) o zg;have hp:=nB xD;have ho:=jm xD;have HA:ax (bV aS W S s L/\au W W W2/\W2.heap[W.heap.size]?=aO (aM #[aj (aO ⟨S,3+o*8,aN⟩)] 133)/\W2.heap[W.heap.size+1]?=aO (aM #[aj (aO ⟨L.ob j,0,aN⟩)] 44)/\(W.alloc (aM #[aj (aO ⟨S,3+o*8,aN⟩)] 133)).alloc (aM #[aj (aO ⟨L.ob j,0,aN⟩)] 44)=W2):=⟨h,fC,hp,ho,xD⟩
 have HF:=qK s o;have HF:ax (s.eF o = -1\/∃ k:aE,k<8/\s.eF o=k/\s.fds (o*8+k)=aN):=HF;rw[<- xD]at rR;clear h fC hp ho xD;generalize s.eF o=R at rR HF ⊢;by_cases hR:R<0
 ·rw[aY hR,aY hR]at rR
  rw[aY hR];go_enter func89,ntmps89;go_wp2_with (go_at_call 70;refine rR.mono ?_;clear rR;rintro r w3 ⟨rfl,eG⟩;rw[HA.2.2.2.2]at eG);go_ret2;have hB:=Below.bK HA.2.1 eG;exact cF.no _ (by decide) (hB.alloc hB.size _)
 ·rw[aW hR,aW hR]at rR
  rw[aW hR];go_enter func89,ntmps89;go_wp2_with (go_at_call 70;refine rR.mono ?_;clear rR;rintro r w3 ⟨rfl,eG⟩;rw[HA.2.2.2.2]at eG);go_ret2;have hB:=Below.bK HA.2.1 eG;have eO:=hB.alloc hB.size (aM #[aa ag R] 3);obtain⟨h,_,hp,ho,_⟩:=HA.out;rcases HF.out with e|⟨k,hk,e,_⟩
  ·omega
  have gm:=h.lt;have Sv:=eG.size;have bk:∀ b,b<w3.heap.size->(w3.alloc (aM #[aa ag R] 3)).heap[b]?=w3.heap[b]?:=fun b hb=>((Grown.refl w3).alloc _).below.block b hb
  refine⟨_,rfl,eO,fun _=>⟨_,_,rfl,enters_of func139 (by kernel_rfl) rfl,?_⟩⟩;have:=Rj (h.bB eO) (W.heap.size+1) W.heap.size w3 o k j zg hk hj (by
   have:=(bk _ (by omega)).trans ((eG.block _ (by omega)).trans ho);simp[World.cell?,this]) (by
   have:=(bk _ (by omega)).trans ((eG.block _ (by omega)).trans hp);simp[World.cell?,this]) (by rw[<- e];simp) (by omega) (by omega) (by omega)
  rw[show R.toNat=k by omega,show gz R ⟨#[]⟩=gz k ⟨#[]⟩from by rw[e]];exact this
theorem Zl{s:Sy}(h:bV aS X S s L)(Bo Bt j:aE)(o:qI)(t:aA)(ho:s.bJ[j]?=aO o)(td:0<=o.pos)(D0:o.pos<=1000)(ht:t.size<=1000)(F8:X.cell? Bo=aO (aj (aO ⟨L.ob j,0,aN⟩)))(J5:X.cell? Bt=aO (ai t))(Yh:¬ L.ob j=Bo)(hNt:¬ L.ob j=Bt):ay aP 148 #[aj (aO Bo),aj (aO Bt)] X (ki aS S s L (s.jw j { o with pos:=o.pos+t.size }) (gz t.size t) X):=by
 have a0:=bj (aM #[aa ag 0,aa ag 0,ai ⟨#[]⟩,ah aN 0 0] 38) F8;have a1:=bj (aM #[aa ag 0,aa ag 0,ai ⟨#[]⟩,ah aN 0 0] 38) J5;obtain⟨⟨_,_,c2⟩,f2⟩:=h.oW ho;have a2:=bj (aM #[aa ag 0,aa ag 0,ai ⟨#[]⟩,ah aN 0 0] 38) c2;have gm:=h.Cs (aQ.1 ho).1;have DU:=h.aS.2.1 j (aQ.1 ho).1;have n1:¬ L.ob j=X.heap.size:=by omega
 have n2:¬ X.heap.size=L.ob j:=by omega
 have HS:ax (bV aS X S s L/\s.bJ[j]?=aO o):=⟨h,ho⟩
 clear h ho;go_enter func148,ntmps148;go_wp2;go_region;have rT:=bg J5;simp only at rT;have H2:ax (∃ L2,bV aS ((X.setCell ⟨L.ob j,2,aN⟩ (aa ag (o.pos+t.size))).alloc (aM #[aa ag 0,aa ag 0,ai ⟨#[]⟩,ah aN 0 0] 38)).drew S (s.jw j { o with pos:=o.pos+t.size }) L2/\CC L L2 X):=by obtain⟨h,ho⟩:=HS.out;have hb:=(nh (h.opn j o ho) (aa ag (o.pos+t.size))).2.2;have h1:=h.Gv (o':={ o with pos:=o.pos+t.size }) ho rfl (cA.set (sp:=(·=L.ob j)) rfl _ 2 (aa ag (o.pos+t.size))) hb;exact⟨_,(h1.aside (aM #[aa ag 0,aa ag 0,ai ⟨#[]⟩,ah aN 0 0] 38)).bB (aR _ _).drew,⟨rfl,rfl,fun b=>by simp[World.setCell]⟩⟩
 have nN:ax (au aS X ((X.setCell ⟨L.ob j,2,aN⟩ (aa ag (o.pos+t.size))).alloc (aM #[aa ag 0,aa ag 0,ai ⟨#[]⟩,ah aN 0 0] 38)).drew):=by have h1:=(aR aS X).setCell (p:=⟨L.ob j,2,aN⟩) DU (aa ag (o.pos+t.size));exact(h1.alloc (bc (bc DU (bM gm)) h1.size) _).drew
 have XG:ax (cA (rv S s L) X ((X.setCell ⟨L.ob j,2,aN⟩ (aa ag (o.pos+t.size))).alloc (aM #[aa ag 0,aa ag 0,ai ⟨#[]⟩,ah aN 0 0] 38)).drew):=(cA.set (.inr (.inl ⟨j,(aQ.1 HS.2).1,rfl⟩)) _ _ _).trans (cA.dB _ (((Grown.refl _).alloc _).below.drew));have kV:(((X.setCell ⟨L.ob j,2,aN⟩ (aa ag (o.pos+t.size))).alloc (aM #[aa ag 0,aa ag 0,ai ⟨#[]⟩,ah aN 0 0] 38)).drew).heap[X.heap.size]?=aO (aM #[aa ag 0,aa ag 0,ai ⟨#[]⟩,ah aN 0 0] 38):=by
  have:=heap_alloc_last (X.setCell ⟨L.ob j,2,aN⟩ (aa ag (o.pos+t.size))) (aM #[aa ag 0,aa ag 0,ai ⟨#[]⟩,ah aN 0 0] 38)
  rwa [show(X.setCell ⟨L.ob j,2,aN⟩ (aa ag (o.pos+t.size))).heap.size=X from by simp[World.setCell]]at this
 have akv:(((X.setCell ⟨L.ob j,2,aN⟩ (aa ag (o.pos+t.size))).alloc (aM #[aa ag 0,aa ag 0,ai ⟨#[]⟩,ah aN 0 0] 38)).drew).cell? Bt=aO (ai t):=by refine(gY ?_ 0).trans J5;exact(((Grown.refl _).alloc _).below.block Bt (by simp[World.setCell];exact rT)).trans (cI _ _ _ _ (fun e=>hNt e.symm))
 generalize ((X.setCell ⟨L.ob j,2,aN⟩ (aa ag (o.pos+t.size))).alloc (aM #[aa ag 0,aa ag 0,ai ⟨#[]⟩,ah aN 0 0] 38)).drew=Z at *;obtain⟨⟨d0,d1,d2,d3⟩,z0,z1,z2,z3⟩:=cK kV;have HK:ax (Z.heap[X.heap.size]?=aO (aM #[aa ag 0,aa ag 0,ai ⟨#[]⟩,ah aN 0 0] 38)):=kV;clear kV a0 a1 a2 F8 J5 c2 f2;go_wp2;refine ba (v:=ar #[aa ag 0,aa ag t.size,ai t,ah aN 0 0]) (by simp[results,results148,go_sem,d0,d1,d2,d3]) rfl ?_;obtain⟨L2,q1,q2⟩:=H2.out;exact Mid.fin (L':=L2) ⟨q1,q2,nN.out,XG.out,HK.out⟩ ⟨by simp[Sy.jw],rfl⟩ _ _ _ _ (fun W=>pG _ _ _ _)
namespace PM
def mP(t:aA)(pos n:aF):aA:=(t.extract (min pos t.size).toNat t.size).extract 0 (min n (t.extract (min pos t.size).toNat t.size).size).toNat
def ss(o:qI)(n:aF):aF:=if(bits BinOp.and IntKind.i64 o.use 1 == 0)=aI then 8 else if n<0\/1000<n then 3 else 0
theorem Mg(t:aA)(pos n:aF):(mP t pos n).size<=t.size:=by unfold mP;simp only[fc];omega
end PM
theorem V9{s:Sy}(h:bV aS W S s L)(j:aE)(o:qI)(f:Fl)(n:aF)(ho:s.bJ[j]?=aO o)(hf:s.bh[o.cM]?=aO f)(td:0<=o.pos)(D0:o.pos<=1000)(x6:f.bm.size<=80)(qF:(s.cQ f).size<=100)(hu:(bits BinOp.and IntKind.i64 o.use 1 == 0)=aH)(IL:¬ n<0)(Ge:¬ 1000<n):ay aP 94 #[aj (aO S),aj (aO ⟨L.ob j,0,aN⟩),aa ag n] W (cF aS S s L 0 (s.jw j { o with pos:=o.pos+(mP (s.cQ f) o.pos n).size }) (gz (mP (s.cQ f) o.pos n).size (mP (s.cQ f) o.pos n)) W):=by
 obtain⟨W1,vJ⟩:=o7 (W.alloc (aM #[aj (aO ⟨L.ob j,0,aN⟩)] 44))
 have fg:au W W W1:=by rw[<- vJ];exact((Grown.refl W).alloc _).below
 have h1:=h.bB fg;obtain⟨⟨c0,c1,c2⟩,f2⟩:=h1.oW ho;have lz:=wk h1 hf x6 W1 (aR _ _);have gm:=h1.Cs (aQ.1 ho).1;have xu:W1.heap.size=W.heap.size+1:=by rw[<- vJ];simp
 have HA:ax (bV aS W S s L/\au W W W1/\W.alloc (aM #[aj (aO ⟨L.ob j,0,aN⟩)] 44)=W1/\s.bJ[j]?=aO o/\W1.cell? W=aO (aj (aO ⟨L.ob j,0,aN⟩))/\W1.cell? ⟨L.ob j,2,aN⟩=aO (aa ag o.pos)):=⟨h,fg,vJ,ho,by rw[<- vJ];simp,c2⟩
 rw[<- vJ]at c0 c1 c2 lz;obtain⟨t,ht⟩:=ee (s.cQ f)
 rw[<- ht]at lz qF ⊢;clear ht;clear h h1 ho hf fg vJ;go_enter func94,ntmps94;go_wp2_with (go_at_call 129;refine lz.mono ?_;clear lz;rintro r w3 ⟨rfl,eG⟩;rw[HA.2.2.1]at eG;have p0:=(eG.cell (p:=W) (by show W.heap.size<_;omega)).trans HA.2.2.2.2.1;have p2:=(eG.cell (p:=⟨L.ob j,2,aN⟩) gm).trans HA.2.2.2.2.2);have q0:=bj (aM #[ai t] 9) p0;have q2:=bj (aM #[ai t] 9) p2;have hl3:L.ob j<w3.heap.size:=aZ gm eG.size;have QB:W.heap.size<w3.heap.size:=by have:=eG.size;omega
 have n1:¬ L.ob j=w3.heap.size:=by omega
 have n2:¬ W.heap.size=w3.heap.size:=by omega
 have n3:¬ w3.heap.size=L.ob j:=by omega
 have n4:¬ w3.heap.size=W.heap.size:=by omega
 have mm:ax (au W1 W1 w3):=eG;go_region;have hz:(t.extract (min o.pos t.size).toNat t.size).size<=100:=by simp only[fc];omega
 have HT:ax (mP t o.pos n=(t.extract (min o.pos t.size).toNat t.size).extract 0 (min n (t.extract (min o.pos t.size).toNat t.size).size).toNat):=rfl;have HTS:ax ((mP t o.pos n).size<=100):=bc (Mg _ _ _) qF;generalize t.extract (min o.pos t.size).toNat t.size=t1 at hz HT ⊢;clear q0 q2;go_wp2;go_ret2;rw[HT.out];have hTS:=HTS.out;rw[HT.out]at hTS;generalize t1.extract 0 (min n t1.size).toNat=T at hTS ⊢;have hBa:=Below.bK HA.2.1 mm.out;have RL:=((Grown.refl w3).alloc (aM #[ai T] 9)).below;have fA:au W W (w3.alloc (aM #[ai T] 9)).drew:=(Below.bK hBa RL).drew;obtain⟨h,_,_,ho,_,_⟩:=HA.out;exact⟨_,rfl,fA,fun _=>⟨_,_,rfl,enters_of func148 (by kernel_rfl) rfl,Zl (h.bB fA) W.heap.size w3 j o T ho td D0 (by omega) ((RL.cell (p:=W) QB).trans p0) (by simp) (by have:=h.Cs (aQ.1 ho).1;omega) n1⟩⟩
theorem Tr{s:Sy}(h:bV aS W S s L)(j:aE)(o:qI)(f:Fl)(n:aF)(ho:s.bJ[j]?=aO o)(hf:s.bh[o.cM]?=aO f)(td:0<=o.pos)(D0:o.pos<=1000)(x6:f.bm.size<=80)(qF:(s.cQ f).size<=100):ay aP 94 #[aj (aO S),aj (aO ⟨L.ob j,0,aN⟩),aa ag n] W (cF aS S s L (ss o n) (s.jw j { o with pos:=o.pos+(mP (s.cQ f) o.pos n).size }) (gz (mP (s.cQ f) o.pos n).size (mP (s.cQ f) o.pos n)) W):=by
 unfold ss;have HB:ax (au W W (W.alloc (aM #[aj (aO ⟨L.ob j,0,aN⟩)] 44))):=((Grown.refl W).alloc _).below;obtain⟨⟨c0,c1,c2⟩,f2⟩:=(h.bB HB.out).oW ho;cases hu:(bits BinOp.and IntKind.i64 o.use 1 == 0)with
 | true =>rw[aY rfl];clear h ho hf;go_enter func94,ntmps94;go_wp2;go_ret2;exact cF.no _ (by decide) HB.out
 | false=>
  rw[aW (by simp)];by_cases h1:n<0
  ·rw[aY (.inl h1)]
   clear h ho hf;go_enter func94,ntmps94;go_wp2;go_ret2;exact cF.no _ (by decide) HB.out
  by_cases h2:1000<n
  ·rw[aY (.inr h2)]
   clear h ho hf;go_enter func94,ntmps94;go_wp2;go_ret2;exact cF.no _ (by decide) HB.out
  rw[aW (by omega)];exact V9 h j o f n ho hf td D0 x6 qF hu h1 h2
