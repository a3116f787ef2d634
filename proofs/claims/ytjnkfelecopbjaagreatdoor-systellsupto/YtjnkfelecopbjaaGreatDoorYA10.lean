import Derived.Test.YtjnkfelecopbjaaGreatDoorYA9
import Derived.Deep.WholeRow
open Go.Proofs.Tryz
open Go.Value renaming int->aa,slice->ah,string->ai,pointer->aj,bool->aq,agg->ar,tuple->aL
open Go.IntKind renaming i64->ag
open Go.RowKit renaming Below->au
open Go renaming World->aw,Aside->ax,Calls->ay,Value->az,Addr->aJ
open _root_ renaming ByteArray->aA,List->aB,Option->aC,Nat->aE,Int->aF,absurd->aG
open Bool renaming false->aH,true->aI
open Go.Ending renaming returned->aK
open Go.Obj renaming cells->aM
open Option renaming none->aN,some->aO
open Go.Proofs.Tryz renaming prog->aP
set_option linter.all false
set_option maxHeartbeats 1000000
set_option maxRecDepth 100000
namespace Go.Proofs.YtjnkfelecopbjaaGreatDoor
open Go.RowKit PM Go.Sort
variable{F:aw->Prop}{S b aS i j k:aE}{W X w:aw}{f:Fl}{g:Fl->Fl}{l:aB aE}{p:aC aJ}{sp:aE->Prop}{t:TypeId}
structure cA (sp:aE->Prop) (W W':aw):Prop where
 size:W.heap.size<=W'
 block:∀ b,b<W.heap.size->¬ sp b->W'.heap[b]?=W.heap[b]?
theorem cA.refl(sp:aE->Prop)(W:aw):cA sp W W:=⟨aV _,fun _ _ _=>rfl⟩
theorem cA.trans{A B C:aw}(h:cA sp A B)(g:cA sp B C):cA sp A C:=
 ⟨bc h.size g.size,fun b hb hn=>(g.block b (aZ hb h.size) hn).trans (h.block b hb hn)⟩
theorem cA.dB(sp:aE->Prop){A B:aw}(h:au A A B):cA sp A B:=⟨h.size,fun b hb _=>h.block b hb⟩
theorem cA.set{P:aE}(h:sp P)(W:aw)(i:aE)(v:az):cA sp W (W.setCell ⟨P,i,aN⟩ v):=
 ⟨by simp[World.setCell],fun b hb hn=>cI _ _ _ _ (fun e=>hn (by rw[e];exact h))⟩
def St(sp:aE->Prop)(W:aw)(F:aw->Prop):Prop:=∀ W',cA sp W W'->F W'
theorem St.now(h:St sp W F):F W:=h W (cA.refl _ _)
theorem St.on{W':aw}(h:St sp W F)(k:cA sp W W'):St sp W' F:=fun X hX=>h X (k.trans hX)
theorem St.more{sp':aE->Prop}(h:St sp W F)(hs:∀ b,b<W.heap.size->sp' b->sp b):St sp' W F:=fun X hX=>
 h X ⟨hX.size,fun b hb hn=>hX.block b hb (fun h'=>hn (hs b hb h'))⟩
structure im where
 y:Lay
 lo:aB Lay
 pl:aC aJ
 cl:aE
 ps:aC aJ
 sc:aE
 lp:aE->aC aJ × aE
 ob:aE->aE
 fb:aE->aE
 ex:aE->Prop
def Sp(S:aE)(s:Sy)(L:im)(b:aE):Prop:=(b=S\/L.ex b)\/(∃ j,j<s.bJ.length/\b=L.ob j)\/∃ i,i<s.bh.length/\b=L.fb i
structure Xy (s:Sy) (L:im) (W:aw):Prop where
 un:eZ W L.y L.lo L.pl L.cl
 bA:bI W L.ps s.bA
 b9:∀ i f,s.bh[i]?=aO f->LK.bI W (L.lp i).1 f.b9/\f.b9.length<=(L.lp i).2/\((L.lp i).1=aN->(L.lp i).2=0)
structure bV (aS:aE) (W:aw) (S:aE) (s:Sy) (L:im):Prop where
 blk:∃ arr:Array az,W.heap[S]?=aO (aM arr 49 (0,0))/\arr.size=35/\arr[0]?=aO (ah L.y.ad L.y.es.length L.y.cap)/\arr[1]?=aO (ah L.pl L.lo.length L.cl)/\arr[2]?=aO (ah L.ps s.bA.length L.sc)/\∀ k,k<32->arr[3+k]?=aO (aj ((s.fds k).map fun j=>⟨L.ob j,0,aN⟩))
 opn:∀ j o,s.bJ[j]?=aO o->W.heap[L.ob j]?=aO (aM #[aj (aO ⟨L.fb o.cM,0,aN⟩),aa ag o.use,aa ag o.pos] 80 (0,0))
 tY:∀ i f,s.bh[i]?=aO f->W.heap[L.fb i]?=aO (aM #[ai f.bm,ai f.text,ah (L.lp i).1 f.b9.length (L.lp i).2] 169 (0,0))
 Df:∀ j j',j<s.bJ.length->j'<s.bJ.length->L.ob j=L.ob j'->j=j'
 B6:∀ i i',i<s.bh.length->i'<s.bh.length->L.fb i=L.fb i'->i=i'
 data:St (Sp S s L) W (Xy s L)
 up:L.y.es=s.up
 low:L.lo.map (·.es)=s.cq
 sI:s.bA.length<=L.sc
 sJ:L.ps=aN->L.sc=0
 qo:∀ k j,s.fds k=aO j->j<s.bJ.length
 pV:∀ o∈s.bJ,o.cM<s.bh.length
 wF:∀ b,L.ex b->aS<=b/\b<W.heap.size
 aS:aS<=S/\(∀ j,j<s.bJ.length->aS<=L.ob j)/\∀ i,i<s.bh.length->aS<=L.fb i
section
variable {aS:aE}{W W':aw}{S:aE}{s:Sy}{L:im}
theorem bV.lt(h:bV aS W S s L):S<W.heap.size:=by obtain⟨arr,hb,_⟩:=h.blk;exact(aX.1 hb).1
theorem bV.Cs(h:bV aS W S s L)(hj:j<s.bJ.length):L.ob j<W:=
 (aX.1 (h.opn j _ (aU hj))).1
theorem bV.BL(h:bV aS W S s L)(hi:i<s.bh.length):L.fb i<W:=
 (aX.1 (h.tY i _ (aU hi))).1
theorem bV.bB(h:bV aS W S s L)(hB:au W W W'):bV aS W' S s L:=by obtain⟨arr,hb,h1⟩:=h.blk;exact⟨⟨arr,(hB.block S h.lt).trans hb,h1⟩,fun j o ho=>(hB.block _ (h.Cs (aQ.1 ho).1)).trans (h.opn j o ho),fun i f hf=>(hB.block _ (h.BL (aQ.1 hf).1)).trans (h.tY i f hf),h.Df,h.B6,h.data.on (cA.dB _ hB),h.up,h.low,h.sI,h.sJ,h.qo,h.pV,fun b hb=>⟨(h.wF b hb).1,aZ (h.wF b hb).2 hB.size⟩,h.aS⟩
theorem bV.cells(h:bV aS W S s L):W.cell? S=aO (ah L.y.ad L.y.es.length L.y.cap)/\W.cell? ⟨S,1,aN⟩=aO (ah L.pl L.lo.length L.cl)/\W.cell? ⟨S,2,aN⟩=aO (ah L.ps s.bA.length L.sc):=by obtain⟨arr,hb,_,h0,h1,h2,_⟩:=h.blk;exact⟨by simp[World.cell?,hb,h0],by simp[World.cell?,hb,h1],by simp[World.cell?,hb,h2]⟩
theorem bV.fd(h:bV aS W S s L)(hk:k<32):W.cell? ⟨S,3+k,aN⟩=aO (aj ((s.fds k).map fun j=>⟨L.ob j,0,aN⟩)):=by obtain⟨arr,hb,_,_,_,_,hf⟩:=h.blk;simp[World.cell?,hb,hf k hk]
theorem bV.EW(h:bV aS W S s L)(i:aE):W.frozen? ⟨S,i,aN⟩=aH:=by obtain⟨arr,hb,_⟩:=h.blk;simp[World.frozen?,hb]
theorem bV.oW(h:bV aS W S s L){o:qI}(ho:s.bJ[j]?=aO o):(W.cell? ⟨L.ob j,0,aN⟩=aO (aj (aO ⟨L.fb o.cM,0,aN⟩))/\W.cell? ⟨L.ob j,1,aN⟩=aO (aa ag o.use)/\W.cell? ⟨L.ob j,2,aN⟩=aO (aa ag o.pos))/\W.frozen? ⟨L.ob j,2,aN⟩=aH:=by have hb:=h.opn j o ho;exact⟨⟨by simp[World.cell?,hb],by simp[World.cell?,hb],by simp[World.cell?,hb]⟩,by simp[World.frozen?,hb]⟩
theorem bV.tX(h:bV aS W S s L)(hf:s.bh[i]?=aO f):(W.cell? ⟨L.fb i,0,aN⟩=aO (ai f.bm)/\W.cell? ⟨L.fb i,1,aN⟩=aO (ai f.text)/\W.cell? ⟨L.fb i,2,aN⟩=aO (ah (L.lp i).1 f.b9.length (L.lp i).2))/\(W.frozen? ⟨L.fb i,0,aN⟩=aH/\W.frozen? ⟨L.fb i,1,aN⟩=aH/\W.frozen? ⟨L.fb i,2,aN⟩=aH):=by have hb:=h.tY i f hf;exact⟨⟨by simp[World.cell?,hb],by simp[World.cell?,hb],by simp[World.cell?,hb]⟩,by simp[World.frozen?,hb],by simp[World.frozen?,hb],by simp[World.frozen?,hb]⟩
end
def ptr(b:aE):az:=aj (aO b)
def uD(w:aw)(p:aC aJ)(bs:aB aE):Prop:=bs=[]\/∃ b off,p=aO ⟨b,off,aN⟩/\b<w.heap.size/\∀ j x,bs[j]?=aO x->w.cell? ⟨b,off+j,aN⟩=aO (ptr x)
def vw(w:aw)(aS:aE)(v:az)(bs:aB aE):Prop:=w.ownsRow aS 78 1 v bs.length (bs.map ptr)
theorem vw.nil(w:aw)(aS:aE):vw w aS (ah aN 0 0) []:=kK _ _ _ _
theorem vw.below{w':aw}{v:az}(h:vw w aS v l)(hb:au w w w'):vw w' aS v l:=by
 refine⟨h.1,h.2.imp id ?_⟩;rintro⟨g,cap,eI,e,hg,hh,r⟩;have gm:g<w.heap.size:=by
  rcases gR g w with h'|h'
  ·exact h'
  ·rw[il h']at hh;cases hh
 exact⟨g,cap,eI,e,hg,by rw[hb.block g gm];exact hh,r⟩
theorem vw.form{v:az}{bs:aB aE}(h:vw w aS v bs):∃ p c,v=ah p bs.length c/\uD w p bs/\bs.length<=c/\(p=aN->c=0)/\∀ b off s,p=aO ⟨b,off,s⟩->aS<=b:=by
 obtain⟨h1,⟨rfl,h2⟩|⟨g,cap,eI,rfl,hg,hh,C6,hm,hs,ht⟩⟩:=h
 ·have:bs=[]:=bX h2
  subst this;exact⟨aN,0,rfl,.inl rfl,aV _,fun _=>rfl,nofun⟩
 ·refine⟨_,cap,rfl,.inr ⟨g,0,rfl,(aX.1 hh).1,fun j x hx=>?_⟩,C6,nofun,fun b off s e=>by cases e;exact hg⟩
  have hc:eI[j]?=aO (ptr x):=by
   have h3:(bs.map ptr)[j]?=aO (ptr x):=by rw[cD,hx];rfl
   rw[<- ht,dm]at h3;split at h3
   ·rw[<- gJ];exact h3
   ·cases h3
  simp[World.cell?,hh,hc]
theorem acu:∃ i0,Tryz.prog.info? 78=aO i0/\i0.zero=aO (aj aN)/\i0.size=1/\i0.bytes=8:=by
 have h:(Tryz.prog.info? 78).map (fun i=>(i.zero,i.size,i.bytes))=aO (aO (aj aN),1,8):=by kernel_rfl
 cases hi:Tryz.prog.info? 78 with
 | none=>rw[hi]at h;cases h
 | some i0 =>rw[hi]at h;simp only[dF,dt,jX]at h;exact⟨i0,rfl,h.1,h.2.1,h.2.2⟩
theorem Kv{ops:Array Oper}{rest:aB Oper}{o:Oper}{a:Act}{Q:Exit->Act->aw->Prop}(X:aw)(y:aE)(ly:o.guard=aN)(s x:Operand)(ho:o.op=.call { callee:=.builtin .append,args:=#[s,x],argTypes:=#[53,53] })(aS:aE)(v:az)(l:aB aE)(hs:a.eval s=v)(jF:vw X aS v l)(hlen:l.length<=1000)(eD:aS<=X)(H:aE)(hH:H=X)(hx:a.eval x=ah (aO H) 1 1)(h:∀ v' w',vw w' aS v' (l++[y])->au aS X w'->X.heap.size<=w'.heap.size->wpList aP ops Q rest (a.put o.dst v') w'):wpList aP ops Q (o::rest) a (X.alloc (aM #[aj (aO y)] 78)):=by
 obtain⟨i0,hi,ou,mL,mh⟩:=acu;refine dP _ ly s x 53 ho aS 78 i0 _ 1 8 underlying53 hi ou mL mh rfl (by decide) _ _ _ hs (qD jF _) _ 1 1 [ptr y] hx rfl ?_ (fun u hu=>by simp at hu;rw[hu];rfl) (by unfold maxLen;omega) (by omega) (by simp;omega) ?_
 ·intro j u hu
  subst hH;cases j with
  | zero=>simp at hu;subst hu;rw[dG];simp[ptr]
  | succ j=>simp at hu
 ·intro v' w' gG gN _
  have iL:X.heap.size<=w'.heap.size:=by have:=gN.size;simp at this;omega
  exact h v' w' (by simpa[vw]using gG) (((aR aS X).alloc eD _).grown gN (by simp;omega) (fun j hj=>(gQ jF j hj).1)) iL
theorem Xm:∃ i0,Tryz.prog.info? 169=aO i0/\i0.size≠0:=by
 have h:(Tryz.prog.info? 169).map (fun i=>i.size)=aO 3:=by kernel_rfl
 cases hi:Tryz.prog.info? 169 with
 | none=>rw[hi]at h;cases h
 | some i0 =>rw[hi]at h;simp only[dF,dt]at h;exact⟨i0,rfl,by omega⟩
theorem ae2(w:aw)(y:aE):(binOp .eql 78 (aj (aO y)) (aj (aO y))).run aP w=.ok (aq aI) w:=by obtain⟨i0,hi,_⟩:=Xm;exact run_eql_ptr_same w _ underlying78 hi
theorem Lm(bs:aB aE)(y:aE)(p:aC aJ)(cap:aE)(w:aw)(hL:uD w p bs)(hn:bs.length<=1000)(hC:∀ x,(x=y\/x∈bs)->∃ ca,w.heap[x]?=aO (aM ca 169 (0,0))):ay aP 48 #[ah p bs.length cap,aj (aO y)] w fun r w'=>(∃ n:aF,r=aK (aa ag n)/\((0<=n/\y∈bs)\/(n = -1/\¬ y∈bs)))/\au w w w':=by
 have HL:ax (uD w p bs):=hL;obtain⟨n,eK⟩:=ee bs.length
 have HN:ax (n=bs.length):=eK;have HC:ax (∀ x,(x=y\/x∈bs)->∃ ca,w.heap[x]?=aO (aM ca 169 (0,0))):=hC;clear hC;rw[<- eK]at hn ⊢;clear eK hL;go_enter func48,ntmps48;go_wp2;go_loopg [8] n (fun gg s7 wr=>∃ k:aE,k<=n/\n-k<=gg/\s7=aa ag k/\ax (au w w wr)/\ax (∀ x∈bs.take k,x≠y))
 case atStart=>exact⟨0,bF _,by omega,rfl,aR _ _,by intro x hx;simp at hx⟩
 case round=>
  obtain⟨k,hk,oP,rfl,BW,HA⟩:=hrel;by_cases gm:k<n
  ·have eN:(k:aF)<(n:aF):=by omega
   obtain⟨x,hx⟩:∃ x,bs[k]?=aO x:=⟨_,aU (by have:=HN.out;omega)⟩
   have HX:ax (bs[k]?=aO x):=hx;rcases HL.out with h0|⟨b,off,rfl,hb,hc⟩
   ·rw[h0]at hx;simp at hx
   have c0:wr.cell? ⟨b,off+k,aN⟩=aO (aj (aO x)):=(BW.cell (p:=⟨b,off+k,aN⟩) hb).trans (hc k x hx);clear hc hx;have q1:∀ v:aw,au w w v->¬ y=x->(binOp .eql 78 (aj (aO y)) (aj (aO x))).run aP v=.ok (aq aH) v:=fun v hv hne=>by obtain⟨i0,hi,hz⟩:=Xm;obtain⟨ca,hca⟩:=HC.out y (.inl rfl);obtain⟨cb,Vx⟩:=HC.out x (.inr (bw HX.out));exact run_eql_ptr_other v underlying78 hi hz (fun e=>hne (by injection e)) ((hv.block _ (aX.1 hca).1).trans hca) ((hv.block _ (aX.1 Vx).1).trans Vx)
   by_cases Nx:y=x
   ·subst Nx
    have qs:=fun v:aw=>ae2 v y
    clear q1;go_wp2;go_ret;exact⟨⟨_,rfl,.inl ⟨by omega,bw HX.out⟩⟩,BW.out⟩
   ·have q2:=q1 wr BW.out Nx
    clear q1;have HZ:ax (∀ z∈bs.take (k+1),z≠y):=by
     show ∀ z∈bs.take (k+1),z≠y;intro z hz;rw[jv]at hz;rcases bZ.1 hz with hz|hz
     ·exact HA.out z hz
     ·rw[HX.out]at hz
      simp at hz;rw[hz];exact fun e=>Nx e.symm
    go_wp2;go_roundg (n-(k+1))
    case measure=>omega
    case rel=>exact⟨k+1,by omega,by omega,by go_num,BW.out,HZ.out⟩
  ·have eN:¬ (k:aF)<(n:aF):=by omega
   have hkn:k=n:=by omega
   go_wp2;go_ret;exact⟨⟨_,rfl,.inr ⟨rfl,fun hy=>HA.out y (by rw[hkn,HN.out,gh];exact hy) rfl⟩⟩,BW.out⟩
theorem Eb(bs:aB aE)(y:aE)(p:aC aJ)(cap:aE)(w:aw)(hL:uD w p bs)(hn:bs.length<=1000)(hC:∀ x,(x=y\/x∈bs)->∃ ca,w.heap[x]?=aO (aM ca 169 (0,0))):ay aP 22 #[ah p bs.length cap,aj (aO y)] w fun r w'=>r=aK (aq (decide (y∈bs)))/\au w w w':=by
 obtain⟨n,eK⟩:=ee bs.length
 have HI:ay aP 48 #[ah p n cap,aj (aO y)] w fun r w'=>(∃ n:aF,r=aK (aa ag n)/\((0<=n/\y∈bs)\/(n = -1/\¬ y∈bs)))/\au w w w':=by rw[eK];exact Lm bs y p cap w hL hn hC
 rw[<- eK]at hn ⊢;clear hL hC eK;go_enter func22,ntmps22;go_wp2_with (go_at_call 48;refine HI.mono ?_;clear HI;rintro e w1 ⟨⟨i,rfl,hi⟩,hB⟩);have HB:ax (au w w w1):=hB;go_ret;refine⟨?_,HB.out⟩;rcases hi with⟨h0,h1⟩|⟨h0,h1⟩
 ·simp[h0,h1]
 ·simp[h0,h1]
theorem qV{P:Program}{d:TypeDesc}(w:aw)(h:P.underlying t=aO d):(isAgg t).run P w=.ok d.isRow w:=by unfold isAgg;rw[lx,lW h w];cases d<;>simp[TypeDesc.isRow]
theorem pZ{P:Program}{n:aE}(w:aw)(h:(P.info? t).map (·.size)=aO n):(sizeOf t).run P w=.ok n w:=by
 cases hq:P.info? t with
 | none=>simp[hq]at h
 | some i=>
  have hs:i.size=n:=by simpa[hq]using h
  simp[sizeOf,typeInfo,hq,hs]
theorem AJ:(Tryz.prog.info? 46).map (·.size)=aO 8:=by kernel_rfl
theorem Mw:(Tryz.prog.info? 47).map (·.size)=aO 32:=by kernel_rfl
theorem Wm:(Tryz.prog.info? 44).map (·.size)=aO 1:=by kernel_rfl
theorem B7(cs:Array az)(o:aE)(ho:o<4)(hs:cs.size=32)(w:aw):(Instr.index 47 (ar cs) (aa ag o)).run aP w=.ok (ar (cs.extract (o*8) (o*8+8))) w:=by
 have h1:(0:aF)<=(o:aF)/\(o:aF)<((4:aE):aF):=by omega
 have h2:=qV w underlying46;have h3:=pZ w AJ;simp[Instr.index,lW underlying47,asIntOf,go_sem,h1,h3,part];intro h;omega
theorem DA(cs:Array az)(i:aE)(v:az)(hi:i<8)(hs:cs[i]?=aO v)(w:aw):(Instr.index 46 (ar cs) (aa ag i)).run aP w=.ok v w:=by
 have h1:(0:aF)<=(i:aF)/\(i:aF)<((8:aE):aF):=by omega
 have h2:=qV w underlying44;have h3:=pZ w Wm;simp[Instr.index,lW underlying46,asIntOf,go_sem,h1,h3,part];rw[aY hi,hs];rfl
section
variable {ops:Array Oper}{rest:aB Oper}{o:Oper}{a:Act}{w:aw}{Q:Exit->Act->aw->Prop}
theorem Pk(ly:o.guard=aN)(x y:Operand)(ho:o.op=.index 47 x y)(cs:Array az)(k:aE)(hk:k<4)(hs:cs.size=32)(hx:a.eval x=ar cs)(hy:a.eval y=aa ag k)(sub:Array az)(Ap:sub=cs.extract (k*8) (k*8+8))(h:wpList aP ops Q rest (a.put o.dst (ar sub)) w):wpList aP ops Q (o::rest) a w:=
 oD ly fun K hK=>by subst Ap;unfold Oper.wp execOp;simp only[ho,hx,hy,lx,my,B7 cs k hk hs w,iQ];exact hK _ _ h
theorem Dd(ly:o.guard=aN)(x y:Operand)(ho:o.op=.index 46 x y)(cs:Array az)(i:aE)(v:az)(hi:i<8)(hs:cs[i]?=aO v)(hx:a.eval x=ar cs)(hy:a.eval y=aa ag i)(h:wpList aP ops Q rest (a.put o.dst v) w):wpList aP ops Q (o::rest) a w:=
 oD ly fun K hK=>by unfold Oper.wp execOp;simp only[ho,hx,hy,lx,my,DA cs i v hi hs w,iQ];exact hK _ _ h
theorem MD(ly:o.guard=aN)(x y:Operand)(ho:o.op=.store 46 x y)(c sub:Array az)(hx:a.eval x=aj (aO w))(hy:a.eval y=ar sub)(hs:sub.size=8)(hc:c.size=8)(h1:sub.all (·.oneCell')=aI)(h:wpList aP ops Q rest (a.put o.dst undef) (w.alloc (aM sub 46))):wpList aP ops Q (o::rest) a (w.alloc (aM c 46)):=
 oD ly fun K hK=>by unfold Oper.wp execOp;simp only[ho,hx,hy,lx,my,run_storeAt_new w 46 c sub (by rw[AJ,hs]) (by rw[hc,hs]) h1,iQ];exact hK _ _ h
end
def kU(s:Sy)(L:im)(k:aE):aB aE:=(s.eH k).map L.fb
section
variable {aS:aE}{W:aw}{S:aE}{s:Sy}{L:im}
theorem Ob(h:s.fds k=aN):kU s L (k+1)=kU s L k:=by unfold kU;rw[Sy.eH,h]
theorem Oa(h:s.fds k=aO j)(hm:s.anK j∈s.eH k):kU s L (k+1)=kU s L k:=by unfold kU;rw[Sy.eH,h];show(BJ _ _).map _=_;rw[BJ,aY hm]
theorem Q6(h:s.fds k=aO j)(hm:¬ s.anK j∈s.eH k):kU s L (k+1)=kU s L k++[L.fb (s.anK j)]:=by unfold kU;rw[Sy.eH,h];show(BJ _ _).map _=_;rw[BJ,aW hm,fk];rfl
theorem bV.OE(h:bV aS W S s L)(hk:s.fds k=aO j):s.anK j<s.bh.length:=by have hj:=h.qo k j hk;rw[Sy.anK,aU hj];exact h.pV _ (jb hj)
theorem bV.vY(h:bV aS W S s L)(k f:aE)(hf:f∈s.eH k):f<s.bh.length:=Js (fun _ _ hk=>h.OE hk) k f hf
theorem XX(h:bV aS W S s L){f:aE}(hf:f<s.bh.length):decide (L.fb f∈kU s L k)=decide (f∈s.eH k):=by
 rw[decide_eq_decide];constructor
 ·intro hx
  obtain⟨g,hg,e⟩:=fT.1 hx;rw[<- h.B6 g f (h.vY k g hg) hf e];exact hg
 ·exact fun hx=>fT.2 ⟨f,hx,rfl⟩
end
theorem bV.row{s:Sy}{L:im}(h:bV aS W S s L):∃ cs:Array az,cs.size=32/\W.rangeAt S 3 cs.toList/\∀ k,k<32->cs[k]?=aO (aj ((s.fds k).map fun j=>⟨L.ob j,0,aN⟩)):=by obtain⟨arr,hb,hs,_,_,_,hf⟩:=h.blk;refine⟨arr.extract 3 (3+32),by simp[hs],World.rangeAt_of_block hb 3 32,fun k hk=>?_⟩;rw[rN];simp only[hs];rw[aY (by omega)];exact hf k hk
theorem Bg(w:aw)(c:Array az)(t:TypeId:=46):(w.alloc (aM c t)).rangeAt w 0 c.toList:=fun j v hv=>by have hb:(w.alloc (aM c t)).heap[w.heap.size]?=aO (aM c t):=heap_alloc_last w _;rw[dD];simp only[World.cell?,hb];simpa using hv
theorem wH{s:Sy}{L:im}(h:bV aS W S s L):ay aP 11 #[aj (aO S)] W fun r W'=>(∃ v,r=aK v/\vw W' W v (kU s L 32))/\au W W W':=by
 obtain⟨cs,hcs,jF,nY⟩:=h.row;have HS:ax (bV aS W S s L):=h;have HG:ax (∀ k,k<32->cs[k]?=aO (aj ((s.fds k).map fun j=>⟨L.ob j,0,aN⟩))):=nY;have HR:ax (W.rangeAt S 3 cs.toList):=jF;have HZ:ax (cs.size=32):=hcs;clear h hcs jF nY;go_enter func11,ntmps11;go_wp2_with (refine wpList_load_mid rfl 47 (.tmp 10) rfl S 3 rfl cs.toList _ HR.out underlying47 rfl (by rw[Mw];simp[HZ.out]) ?_;rw[tM]);go_loopg [3,12] 4 (fun gg s3 s12 wr=>∃ o:aE,o<=4/\4-o<=gg/\s12=aa ag o/\ax (vw wr W s3 (kU s L (o*8))/\au W W wr))
 case atStart=>exact⟨0,by omega,by omega,rfl,vw.nil _ _,aR _ _⟩
 case round=>
  obtain⟨o,ho,oP,rfl,HI⟩:=hrel;by_cases gm:o<4
  ·have eN:(o:aF)<4:=by omega
   obtain⟨sub,Ap⟩:=ee (cs.extract (o*8) (o*8+8))
   have HU:ax (sub=cs.extract (o*8) (o*8+8)):=Ap;have XR:ax (sub.size=8):=by show _=_;rw[Ap];simp[HZ.out];omega
   have XS:ax (∀ i,i<8->sub[i]?=aO (aj ((s.fds (o*8+i)).map fun j=>⟨L.ob j,0,aN⟩))):=by show ∀ i,_;intro i hi;rw[Ap,rN,HZ.out,aY (by omega)];exact HG.out _ (by omega)
   have ZG:ax (sub.all (·.oneCell')=aI):=by
    show _=aI;rw[Array.all_eq_true];intro i hi;have h8:=XR.out;have:=XS.out i (by omega);rw[Wu hi]at this;injection this with this
    rw[this];rfl
   clear Ap;go_wp2_with (first|(refine Pk rfl (.tmp 11) (.tmp 12) rfl cs o gm HZ.out rfl rfl sub HU.out ?_)|(refine MD rfl (.tmp 5) (.tmp 14) rfl _ sub rfl rfl XR.out rfl ZG.out ?_)|(refine wpList_load_mid rfl 46 (.tmp 5) rfl wr 0 rfl sub.toList _ (Bg wr sub) underlying46 rfl (by rw[AJ];simp[XR.out]) ?_;rw[tM]));have lV:ax (au W W (wr.alloc (aM sub 46))):=Below.bK HI.2 ((Grown.refl wr).alloc _).below;have ZD:ax (vw (wr.alloc (aM sub 46)) W u3 (kU s L (o*8+0))):=vw.below HI.1 ((Grown.refl wr).alloc _).below;go_loopg [3,16] 8 (fun gg s3 s16 wq=>∃ i:aE,i<=8/\8-i<=gg/\s16=aa ag i/\ax (vw wq W s3 (kU s L (o*8+i))/\au W W wq))
   case atStart=>exact⟨0,by omega,by omega,rfl,ZD.out,lV.out⟩
   case round=>
    obtain⟨i,hi,afI,rfl,HJ⟩:=hrel;by_cases rT:i<8
    ·have IJ:(i:aF)<8:=by omega
     cases l6:s.fds (o*8+i)with
     | none=>
      have HX:ax (sub[i]?=aO (aj aN)):=by have:=XS.out i rT;rw[l6]at this;exact this
      have HE:ax (kU s L (o*8+(i+1))=kU s L (o*8+i)):=Ob l6;go_wp2_with (refine Dd rfl (.tmp 15) (.tmp 16) rfl sub i (aj aN) rT HX.out rfl rfl ?_);go_roundg (8-(i+1))
      case measure=>omega
      case rel=>exact⟨i+1,by omega,by omega,by go_num,by rw[HE.out];exact HJ.out⟩
     | some j=>
      have HX:ax (sub[i]?=aO (aj (aO ⟨L.ob j,0,aN⟩))):=by have:=XS.out i rT;rw[l6]at this;exact this
      obtain⟨op,gX⟩:∃ op,s.bJ[j]?=aO op:=⟨_,aU (HS.qo _ _ l6)⟩
      have Qx:s.anK j=op.cM:=by simp[Sy.anK,gX]
      have HF:ax (op.cM<s.bh.length):=HS.pV op (bw gX);have c0:wr.cell? ⟨L.ob j,0,aN⟩=aO (aj (aO ⟨L.fb op.cM,0,aN⟩)):=(HJ.2.cell (p:=⟨L.ob j,0,aN⟩) (HS.Cs (aQ.1 gX).1)).trans (HS.oW gX).1.1;have HM:ax (decide (L.fb op.cM∈kU s L (o*8+i))=decide (op.cM∈s.eH (o*8+i))):=XX HS.out HF.out;have HC:ax (∀ x,(x=L.fb op.cM\/x∈kU s L (o*8+i))->∃ ca,wr.heap[x]?=aO (aM ca 169 (0,0))):=by
       show ∀ x,_;rintro x (rfl|hx)
       ·exact⟨_,(HJ.2.block _ (HS.BL HF.out)).trans (HS.tY _ _ (aU HF.out))⟩
       ·obtain⟨f,hf,rfl⟩:=fT.1 hx
        have hf:=HS.vY _ f hf;exact⟨_,(HJ.2.block _ (HS.BL hf)).trans (HS.tY _ _ (aU hf))⟩
      have hlen:(kU s L (o*8+i)).length<=32:=by have:=tA s (o*8+i);simp only[kU,bQ];omega
      obtain⟨p,c,rfl,KS,_⟩:=HJ.1.form;have gW:=Eb (kU s L (o*8+i)) (L.fb op.cM) p c wr KS (by omega) HC.out;rw[HM.out]at gW;have Ca:ax ((kU s L (o*8+i)).length<=32):=hlen;clear KS;generalize hn:(kU s L (o*8+i)).length=n at gW HJ;have HN:ax ((kU s L (o*8+i)).length=n):=hn;clear hn hlen;by_cases qy:op.cM∈s.eH (o*8+i)
      ·rw[dJ qy]at gW
       have HE:ax (kU s L (o*8+(i+1))=kU s L (o*8+i)):=Oa l6 (by rw[Qx];exact qy);clear qy Qx gX l6;go_wp2_with (first|(refine Dd rfl (.tmp 15) (.tmp 16) rfl sub i _ rT HX.out rfl rfl ?_)|(go_at_call 22;refine gW.mono ?_;clear gW;rintro e w1 ⟨rfl,hB⟩));go_roundg (8-(i+1))
       case measure=>omega
       case rel=>exact⟨i+1,by omega,by omega,by go_num,by rw[HE.out];exact⟨HJ.1.below hB,Below.bK HJ.2 hB⟩⟩
      ·rw[bD qy]at gW
       have HE:ax (kU s L (o*8+(i+1))=kU s L (o*8+i)++[L.fb op.cM]):=by have:=Q6 (L:=L) l6 (by rw[Qx];exact qy);rw[Qx]at this;exact this
       have EF:ax _:=aZ (HS.Cs (aQ.1 gX).1) HJ.2.size;clear qy Qx gX l6;go_wp2_with (first|(refine Dd rfl (.tmp 15) (.tmp 16) rfl sub i _ rT HX.out rfl rfl ?_)|(go_at_call 22;refine gW.mono ?_;clear gW;rintro e w1 ⟨rfl,hB⟩;have c1:=(hB.cell (p:=⟨L.ob j,0,aN⟩) EF.out).trans c0)|(refine Kv _ (L.fb op.cM) rfl (.tmp 30) (.tmp 35) rfl W _ _ rfl (HJ.1.below hB) (bc Ca.out (by decide)) (bc HJ.2.size hB.size) _ rfl rfl ?_;rintro v2 w2 Up fC BX));have U0:ax (vw w2 W v2 (kU s L (o*8+(i+1)))/\au W W w2):=by rw[HE.out];exact⟨Up,(Below.bK HJ.2 hB).trans fC⟩
       go_roundg (8-(i+1))
       case measure=>omega
       case rel=>exact⟨i+1,by omega,by omega,by go_num,U0.out⟩
    ·have IJ:¬ (i:aF)<8:=by omega
     have hi8:i=8:=by omega
     subst hi8;go_wp2;go_roundg (4-(o+1))
     case measure=>omega
     case rel=>exact⟨o+1,by omega,by omega,by go_num,by rw[show(o+1)*8=o*8+8 by omega];exact HJ.out⟩
  ·have eN:¬ (o:aF)<4:=by omega
   have zg:o=4:=by omega
   subst zg;go_wp2;go_ret;exact⟨⟨_,rfl,HI.1⟩,HI.2⟩
theorem Ft(s:Sy):anM s.bA:=Mn (cY s.all)
theorem zH{s:Sy}{L:im}(h:bV aS W S s L)(hX:au W W X)(q:aA)(hq:q.size<=maxLen)(x:bP)(hx:x=(bW s.bA q).getD cR)(sn:aE)(ik:sn=s.bA.length):ay aP 76 #[ah L.ps sn L.sc,ai q] X fun r w'=>r=aK (aL #[ar #[ai x.bm, aa ag x.bE, ai x.text, aq x.opq],aq (bW s.bA q).isSome])/\au X X w':=by
 subst ik;have hR:=cY s.all;have hL:=(h.bB hX).data.now.bA;refine(y9 s.bA q L.ps L.sc X hL (Ft s) (by have:=hR.len;simp only[Sy.bA];omega) hq).mono ?_;rintro r w' ⟨y,b,rfl,hg,hz,_,hB⟩;have hg:=hg hR.anF;cases b with
 | true=>rw[hx,hg];exact⟨rfl,hB⟩
 | false=>rw[hx,hg,hz rfl];exact⟨rfl,hB⟩
theorem wk{s:Sy}{L:im}(h:bV aS W S s L)(hf:s.bh[i]?=aO f)(iL:f.bm.size<=80)(X:aw)(hX:au W W X):ay aP 129 #[aj (aO S),aj (aO ⟨L.fb i,0,aN⟩)] X fun r w'=>r=aK (ai (s.cQ f))/\au X X w':=by
 have hk:=h.bB hX;have cs:=hk.cells.2.2;obtain⟨⟨c0,c1,_⟩,_⟩:=hk.tX hf;by_cases h0:f.bm.data.toList=[]
 ·have h1:=lX h0
  have HT:ax (s.cQ f=f.text):=by show _=_;rw[Sy.cQ,aY h0]
  clear h0 hk iL hX h;go_enter func129,ntmps129;go_wp2;go_ret;exact⟨by rw[HT.out];rfl,aR _ _⟩
 ·have h1:=jA h0
  obtain⟨x,hx⟩:=ee ((bW s.bA f.bm).getD cR)
  have HT:ax (s.cQ f=x.text):=by show _=_;rw[Sy.cQ,aW h0,hx]
  obtain⟨sn,ik⟩:=ee s.bA.length
  have mK:=fun Y (hY:au X.heap.size X Y)=>zH hk hY f.bm (by unfold maxLen;omega) x hx sn ik
  rw[<- ik]at cs;generalize (bW s.bA f.bm).isSome=b at mK;have HS:ax (S<X/\L.fb i<X):=⟨hk.lt,hk.BL (aQ.1 hf).1⟩
  clear h0 hk iL hX h hx ik hf;obtain⟨xp,xk,xt,xo⟩:=x;simp only at mK;have n1:=World.new_ne X ⟨S,2,aN⟩ cs;have n2:=World.new_ne X ⟨L.fb i,0,aN⟩ c0;have hS:=HS.1;have hFb:=HS.2;go_enter func129,ntmps129;go_wp2;go_region_held3 (fun w'=>w'.cell? ⟨S,2,aN⟩=aO (ah L.ps sn L.sc)/\w'.cell? ⟨L.fb i,0,aN⟩=aO (ai f.bm)) (go_keep) (first
   | (go_at_call 76;refine(mK _ (aR _ _).drew).mono ?_;clear mK;rintro r w3 ⟨rfl,pL⟩;have UX:ax _:=pL;have z1:=(pL.cell (p:=⟨S,2,aN⟩) hS).trans cs;have z2:=(pL.cell (p:=⟨L.fb i,0,aN⟩) hFb).trans c0;clear pL)
   | (go_at_call 76;refine(mK _ (((aR _ _).alloc (aV _) _).drew)).mono ?_;clear mK;rintro r w3 ⟨rfl,pL⟩;have UX:ax _:=pL;have z1:=(pL.cell (p:=⟨S,2,aN⟩) (by simp;omega)).trans (bj _ cs);have z2:=(pL.cell (p:=⟨L.fb i,0,aN⟩) (by simp;omega)).trans (bj _ c0);obtain⟨⟨b0,b1,b2,b3⟩,⟨g0,g1,g2,g3⟩⟩:=iv (w:=X) (B:=X.heap.size+1) (bC _) (((aR _ _).drew).trans (pL.mono (rP (cE X _).symm)));clear pL))
  ·have HB:ax (au X X (w3.alloc (aM #[ai xp,aa ag xk,ai xt,aq xo] 88))):=by
    have h1:au X X w3:=((aR _ _).drew).trans UX.out;exact h1.alloc h1.size _
   go_wp2;go_ret;exact⟨by rw[HT.out];rfl,HB.out⟩
  ·have HB:ax (au X X ((((w3.setCell X (ai xp)).setCell ⟨X,1,aN⟩ (aa ag xk)).setCell ⟨X,2,aN⟩ (ai xt)).setCell ⟨X,3,aN⟩ (aq xo))):=by
    have h1:au X X w3:=(((aR _ _).alloc (aV _) _).drew).trans (UX.mono (by rw[show ∀ o,(X.alloc o).drew.heap.size=X.heap.size+1 from fun o=>cE X o];omega));exact(((h1.setCell (p:=X) (aV _) _).setCell (p:=⟨X,1,aN⟩) (aV _) _).setCell (p:=⟨X,2,aN⟩) (aV _) _).setCell (p:=⟨X,3,aN⟩) (aV _) _
   go_wp2;go_ret;exact⟨by rw[HT.out];rfl,HB.out⟩
theorem gY(h:X.heap[b]?=W.heap[b]?)(i:aE):X.cell? ⟨b,i,aN⟩=W.cell? ⟨b,i,aN⟩:=by simp[World.cell?,h]
theorem dZ{arr:Array az}{fr:aE × aE}(h:W.heap[b]?=aO (aM arr t fr))(i:aE)(v:az):(W.setCell ⟨b,i,aN⟩ v).heap[b]?=aO (aM (arr.setIfInBounds i v) t fr):=by simp[World.setCell,iJ,h]
theorem bI.st{l:aB bP}(h:bI W p l)(hn:∀ b off s,p=aO ⟨b,off,s⟩->¬ sp b):St sp W (fun X=>bI X p l):=fun X hX=>by
 rcases h with h|⟨b,off,hp,hb,hc⟩
 ·exact .inl h
 ·exact .inr ⟨b,off,hp,aZ hb hX.size,fun j e he i v hv=>(gY (hX.block b hb (hn b off aN hp)) _).trans (hc j e he i v hv)⟩
theorem gj.st{l:aB Lay}(h:gj W p l)(hn:∀ b off s,p=aO ⟨b,off,s⟩->¬ sp b):St sp W (fun X=>gj X p l):=fun X hX=>by
 rcases h with h|⟨b,off,hp,hb,hc⟩
 ·exact .inl h
 ·exact .inr ⟨b,off,hp,aZ hb hX.size,fun j e he=>(gY (hX.block b hb (hn b off aN hp)) _).trans (hc j e he)⟩
theorem M3.st{l:aB LK.Lk}(h:LK.bI W p l)(hn:∀ b off s,p=aO ⟨b,off,s⟩->¬ sp b):St sp W (fun X=>LK.bI X p l):=fun X hX=>by
 rcases h with h|⟨b,off,hp,hb,hc⟩
 ·exact .inl h
 ·exact .inr ⟨b,off,hp,aZ hb hX.size,fun j e he i v hv=>(gY (hX.block b hb (hn b off aN hp)) _).trans (hc j e he i v hv)⟩
theorem eZ.st{y:Lay}{lo:aB Lay}{pl:aC aJ}{cl B:aE}(h:eZ W y lo pl cl)(hn:qC B y lo pl)(hB:∀ b,sp b->b<B):St sp W (fun X=>eZ X y lo pl cl):=fun X hX=>by
 have no:∀ b,B<=b->¬ sp b:=fun b hb hs=>aG (hB b hs) (by omega)
 refine⟨⟨bI.st h.up.anO (fun b off s e=>no b (hn.1 b off s e)) X hX,h.up.fits,h.up.cap,h.up.small⟩,h.Wq,gj.st h.anO (fun b off s e=>no b (hn.2.1 b off s e)) X hX,fun x hx=>⟨?_,(h.each x hx).2⟩,h.nil,h.cap⟩;have:=(h.each x hx).1;exact⟨bI.st this.anO (fun b off s e=>no b (hn.2.2 x hx b off s e)) X hX,this.fits,this.cap,this.small⟩
def Gl(aS:aE)(W:aw):Prop:=0 < aS/\∃ m,W.cell? ⟨0,0,aN⟩=aO (aa ag m)
theorem Gl.bB(h:Gl aS W)(hB:au aS W X):Gl aS X:=⟨h.1,h.2.imp fun m hm=>(hB.cell (p:=⟨0,0,aN⟩) h.1).trans hm⟩
section
variable {aS:aE}{W X:aw}{S:aE}{s:Sy}{L:im}
theorem bV.one(h:bV aS W S s L)(hj:j<s.bJ.length):L.ob j≠S:=fun e=>by obtain⟨arr,hb,_⟩:=h.blk;have:=h.opn j _ (aU hj);rw[e,hb]at this;simp at this
theorem bV.Af(h:bV aS W S s L)(hi:i<s.bh.length):L.fb i≠S:=fun e=>by obtain⟨arr,hb,_⟩:=h.blk;have:=h.tY i _ (aU hi);rw[e,hb]at this;simp at this
theorem bV.Zf(h:bV aS W S s L)(hi:i<s.bh.length)(hj:j<s.bJ.length):L.ob j≠L.fb i:=fun e=>by have h1:=h.tY i _ (aU hi);have h2:=h.opn j _ (aU hj);rw[e,h1]at h2;simp at h2
theorem bV.od(h:bV aS W S s L)(hb:Sp S s L b):aS<=b/\b<W.heap.size:=by
 rcases hb with(rfl|hx)|⟨j,hj,rfl⟩|⟨i,hi,rfl⟩
 ·exact⟨h.aS.1,h.lt⟩
 ·exact h.wF b hx
 ·exact⟨h.aS.2.1 j hj,h.Cs hj⟩
 ·exact⟨h.aS.2.2 i hi,h.BL hi⟩
end
def PM.Sy.di(s:Sy)(up:aB bP)(cq:aB (aB bP)):Sy:={ s with up:=up,cq:=cq }
def M5(aS S:aE)(s':Sy)(L:im)(W W':aw):Prop:=∃ L':im,bV aS W' S s' L'/\L'.ob=L.ob/\L'.fb=L.fb/\L'.ex=L.ex/\au aS W W'/\cA (·=S) W W'
theorem bV.reset{s:Sy}{L:im}(h:bV aS W S s L)(hk:cA (·=S) W X)(y:Lay)(lo:aB Lay)(pl:aC aJ)(cl:aE)(p:aC aJ)(c:aE)(hA:∃ arr:Array az,X.heap[S]?=aO (aM arr 49 (0,0))/\arr.size=35/\arr[0]?=aO (ah y.ad y.es.length y.cap)/\arr[1]?=aO (ah pl lo.length cl)/\arr[2]?=aO (ah p (cO (y.es::lo.map (·.es))).length c)/\∀ k,k<32->arr[3+k]?=aO (aj ((s.fds k).map fun j=>⟨L.ob j,0,aN⟩)))(hU:St (Sp S s L) W (fun X=>eZ X y lo pl cl))(hL:St (Sp S s L) X (fun X=>bI X p (cO (y.es::lo.map (·.es)))))(hc:(cO (y.es::lo.map (·.es))).length<=c)(hn:p=aN->c=0):bV aS X S (s.di y.es (lo.map (·.es))) { L with y:=y,lo:=lo,pl:=pl,cl:=cl,ps:=p,sc:=c }:=by
 have J8:cA (Sp S s L) W X:=⟨hk.size,fun b hb hn=>hk.block b hb (fun e=>hn (.inl (.inl e)))⟩
 refine⟨hA,fun j o ho=>(hk.block _ (h.Cs (aQ.1 ho).1) (h.one (aQ.1 ho).1)).trans (h.opn j o ho),fun i f hf=>(hk.block _ (h.BL (aQ.1 hf).1) (h.Af (aQ.1 hf).1)).trans (h.tY i f hf),h.Df,h.B6,?_,rfl,rfl,hc,hn,h.qo,h.pV,fun b hb=>⟨(h.wF b hb).1,aZ (h.wF b hb).2 hk.size⟩,h.aS⟩;intro Y hY;exact⟨hU Y (J8.trans hY),hL Y hY,(h.data Y (J8.trans hY)).b9⟩
theorem pU{s:Sy}{L:im}(h:bV aS W S s L)(hg:Gl aS W)(y:Lay)(lo:aB Lay)(pl:aC aJ)(cl:aE)(hU:St (Sp S s L) W (fun X=>eZ X y lo pl cl))(h0:(bH (y.es::lo.map (·.es))).1=0):ay aP 74 #[aj (aO S),ar #[ah y.ad y.es.length y.cap,ah pl lo.length cl]] W fun r W'=>r=aK (aL #[])/\M5 aS S (s.di y.es (lo.map (·.es))) L W W':=by
 obtain⟨c0,c1,c2⟩:=h.cells;have f0:=h.EW 0;have f1:=h.EW 1;have f2:=h.EW 2;have n0:=World.new_ne W ⟨S,0,aN⟩ c0;have n1:=World.new_ne W ⟨S,1,aN⟩ c1;have n3:¬ W=S:=by have:=h.lt;omega
 have n4:¬ S=W.heap.size:=by have:=h.lt;omega
 have HS:ax (bV aS W S s L):=h;obtain⟨yn,ku⟩:=ee y.es.length
 obtain⟨ln,ka⟩:=ee lo.length
 obtain⟨W1,vJ⟩:=o7 ((W.setCell S (ah y.ad y.es.length y.cap)).setCell ⟨S,1,aN⟩ (ah pl lo.length cl))
 obtain⟨W2,xD⟩:=o7 (W1.alloc (aM #[ah y.ad y.es.length y.cap,ah pl lo.length cl] 26))
 have RJ:au W1 W1 W2:=by rw[<- xD];exact((Grown.refl W1).alloc _).below
 have xu:W1.heap.size=W.heap.size:=by rw[<- vJ];simp[World.setCell]
 have j4:cA (Sp S s L) W W2:=by refine cA.trans ?_ (cA.dB _ RJ);rw[<- vJ];exact(cA.set (.inl (.inl rfl)) _ _ _).trans (cA.set (.inl (.inl rfl)) _ _ _)
 have fC:au aS W W2:=by
  have h1:au aS W W1:=by rw[<- vJ];exact((aR _ _).setCell (p:=S) h.aS.1 _).setCell (p:=⟨S,1,aN⟩) h.aS.1 _
  exact h1.trans (RJ.mono (by rw[xu];exact bc h.aS.1 (bM h.lt)))
 obtain⟨m,hm⟩:=(hg.bB fC).2;obtain⟨sl,xv⟩:=ee (cO (y.es::lo.map (·.es)))
 have ik:=zF y lo m pl cl W2 (hU W2 j4) hm;rw[h0,<- xv]at ik;obtain⟨sn,Y2⟩:=ee sl.length
 have hkS:cA (·=S) W W2:=by refine cA.trans ?_ (cA.dB _ RJ);rw[<- vJ];exact(cA.set (sp:=(·=S)) rfl _ _ _).trans (cA.set (sp:=(·=S)) rfl _ _ _)
 have HK:ax (cA (·=S) W W2/\au aS W W2):=⟨hkS,fC⟩
 have HN:ax (yn=y.es.length/\ln=lo.length/\sn=sl.length/\sl=cO (y.es::lo.map (·.es))):=⟨ku,ka,Y2,xv⟩
 have hSn:S<W.heap.size:=h.lt;have HU:ax (St (Sp S s L) W (fun X=>eZ X y lo pl cl)):=hU;rw[<- ku,<- ka]at vJ xD ⊢;have HW:ax (W1.alloc (aM #[ah y.ad yn y.cap,ah pl ln cl] 26)=W2/\(W.setCell S (ah y.ad yn y.cap)).setCell ⟨S,1,aN⟩ (ah pl ln cl)=W1):=⟨xD,vJ⟩
 have Pe:ay aP 8 #[ar #[ah y.ad yn y.cap,ah pl ln cl]] W2 (fun r w'=>∃ p c,r=aK (aL #[ah p sn c,aa ag 0])/\ax (bI w' p sl/\sl.length<=c/\(p=aN->c=0)/\au W2 W2 w'/\∀ b off s,p=aO ⟨b,off,s⟩->W2.heap.size<=b)):=by rw[ku,ka,Y2];exact ik.mono fun r w' ⟨p,c,e,a1,a2,a3,a4,a5⟩=>⟨p,c,e,a1,a2,a3,a4,a5⟩
 have HA:ax (∃ arr:Array az,W2.heap[S]?=aO (aM arr 49 (0,0))/\arr.size=35/\arr[0]?=aO (ah y.ad yn y.cap)/\arr[1]?=aO (ah pl ln cl)/\∀ k,k<32->arr[3+k]?=aO (aj ((s.fds k).map fun j=>⟨L.ob j,0,aN⟩))):=by
  show ∃ arr:Array az,_;obtain⟨arr,hb,iL,_,_,_,hf⟩:=h.blk;have uX:=dZ (dZ hb 0 (ah y.ad yn y.cap)) 1 (ah pl ln cl);rw[vJ]at uX;refine⟨_,(RJ.block S (by rw[xu];exact h.lt)).trans uX,by simp[iL],?_,?_,fun k hk=>?_⟩
  ·rw[dR (by omega),jV (by omega)]
  ·rw[jV (by simp;omega)]
  ·rw[dR (by omega),dR (by omega)];exact hf k hk
 have QO:ax (W2.frozen? ⟨S,2,aN⟩=aH/\∃ v,W2.cell? ⟨S,2,aN⟩=aO v):=by obtain⟨arr,hb,iL,_⟩:=HA.out;exact⟨by simp[World.frozen?,hb],by simp[World.cell?,hb,iL]⟩
 have BX:W2.heap.size=W.heap.size+1:=by rw[<- xD,<- vJ];simp[World.setCell]
 rw[<- xD,<- vJ]at Pe;clear hkS j4 fC hm RJ ik xu xv Y2 xD vJ hU h0 h ku ka;go_enter func74,ntmps74;go_wp2_with (go_at_call 8;refine Pe.mono ?_;clear Pe;rintro r w3 ⟨p,c,rfl,H3⟩;rw[HW.2,HW.1]at H3;have d2:w3.frozen? ⟨S,2,aN⟩=aH:=(H3.2.2.2.1.frozen (p:=⟨S,2,aN⟩) (by show S<_;omega)).trans QO.1;obtain⟨v2,hv2⟩:=QO.2;have e2:w3.cell? ⟨S,2,aN⟩=aO v2:=(H3.2.2.2.1.cell (p:=⟨S,2,aN⟩) (by show S<_;omega)).trans hv2);refine sM (eC rfl _ _ _) rfl ?_;refine⟨rfl,?_⟩;obtain⟨pK,Ld,hpn,eG,j5⟩:=H3.out;obtain⟨e1,e2',e3,e4⟩:=HN.out;subst e1 e2' e3 e4;obtain⟨arr,hb,iL,a0,a1,af⟩:=HA.out;have zf:=(eG.block S (by omega)).trans hb;refine⟨_,bV.reset HS.out ((HK.1.trans (cA.dB _ eG)).trans (cA.set (sp:=(·=S)) rfl _ 2 _)) y lo pl cl p c ⟨_,dZ zf 2 _,by simp[iL],?_,?_,?_,fun k hk=>?_⟩ HU.out ?_ Ld hpn,rfl,rfl,rfl,?_,(HK.1.trans (cA.dB _ eG)).trans (cA.set (sp:=(·=S)) rfl _ 2 _)⟩
 ·rw[dR (by omega)];exact a0
 ·rw[dR (by omega)];exact a1
 ·rw[jV (by omega)]
 ·rw[dR (by omega)];exact af k hk
 ·refine St.on (bI.st pK (fun b off s' e qt=>?_)) (cA.set (.inl (.inl rfl)) _ 2 _)
  have h1:=j5 b off s' e;have h2:=(HS.od qt).2;omega
 ·exact(HK.2.trans (eG.mono (bc HS.aS.1 (by omega)))).setCell (p:=⟨S,2,aN⟩) HS.aS.1 _
def PM.Sy.eF(s:Sy)(o:aE):aF:=match (List.range 8).find? (fun k=>(s.fds (o*8+k)).isNone)with
 | some k=>k
 | none => -1
theorem ET{s:Sy}{o:aE}(hk:k<8)(h0:s.fds (o*8+k)=aN)(h1:∀ j,j<k->¬ s.fds (o*8+j)=aN):s.eF o=k:=by
 have:(List.range 8).find? (fun k=>(s.fds (o*8+k)).isNone)=aO k:=by
  rw[List.find?_range_eq_some];exact⟨by simp[h0],by simpa using hk,fun j hj=>by
   have:=h1 j hj;cases h:s.fds (o*8+j)with
   | none=>exact aG h this
   | some x=>rfl⟩
 rw[Sy.eF,this]
theorem ES{s:Sy}{o:aE}(h1:∀ j,j<8->¬ s.fds (o*8+j)=aN):s.eF o = -1:=by
 have:(List.range 8).find? (fun k=>(s.fds (o*8+k)).isNone)=aN:=by rw[nz];intro j hj;have:=h1 j (by simpa using hj);simp[Option.isNone_iff_eq_none,this]
 rw[Sy.eF,this]
theorem qK(s:Sy)(o:aE):s.eF o = -1\/∃ k:aE,k<8/\s.eF o=k/\s.fds (o*8+k)=aN:=by
 unfold Sy.eF;cases h:(List.range 8).find? (fun k=>(s.fds (o*8+k)).isNone)with
 | none=>exact .inl rfl
 | some k =>have h1:=uR h;have h2:=gv h;exact .inr ⟨k,by simpa using h2,rfl,by simpa using h1⟩
theorem ae1(w:aw)(a:aJ):(binOp .eql 44 (aj aN) (aj (aO a))).run aP w=.ok (aq aH) w:=by
 obtain⟨i0,hi,hz⟩:∃ i0,Tryz.prog.info? 80=aO i0/\i0.size≠0:=by
  have h:(Tryz.prog.info? 80).map (fun i=>i.size)=aO 3:=by kernel_rfl
  cases hi:Tryz.prog.info? 80 with
  | none=>rw[hi]at h;cases h
  | some i0 =>rw[hi]at h;simp only[dF,dt]at h;exact⟨i0,rfl,by omega⟩
 have h:∀ d:aE,(Op.equalIn (d+1) 44 (aj aN) (aj (aO a))).run aP w=.ok aH w:=fun d=>by simp[Op.equalIn,lW underlying44,sizeOf,typeInfo]
 simp only[binOp];simp[Op.equal,Op.maxDepth,h 9999]
theorem Ll{s:Sy}{L:im}(h:bV aS W S s L)(o:aE)(ho:o<4):ay aP 116 #[ah (aO ⟨S,3+o*8,aN⟩) 8 8,aj aN] W fun r w'=>r=aK (aa ag (s.eF o))/\au W W w':=by
 have HS:ax (bV aS W S s L):=h;clear h;generalize hR:s.eF o=R;have HR:ax (s.eF o=R):=hR;clear hR;go_enter func116,ntmps116;go_wp2;go_loopg [8] 8 (fun gg s7 wr=>∃ k:aE,k<=8/\8-k<=gg/\s7=aa ag k/\ax (au W W wr)/\ax (∀ j,j<k->¬ s.fds (o*8+j)=aN))
 case atStart=>exact⟨0,bF _,by omega,rfl,aR _ _,fun j hj=>aG hj (by omega)⟩
 case round=>
  obtain⟨k,hk,oP,rfl,BW,HA⟩:=hrel;by_cases gm:k<8
  ·have eN:(k:aF)<8:=by omega
   have c0:wr.cell? ⟨S,3+o*8+k,aN⟩=aO (aj ((s.fds (o*8+k)).map fun j=>⟨L.ob j,0,aN⟩)):=by rw[dh 3];exact(HS.bB BW.out).fd (by omega)
   cases hf:s.fds (o*8+k)with
   | none=>
    rw[hf]at c0;have c0:wr.cell? ⟨S,3+o*8+k,aN⟩=aO (aj aN):=c0;have HZ:ax (R=(k:aF)):=by show _=_;rw[<- HR.out];exact ET gm hf HA.out
    go_wp2;go_ret;exact⟨by rw[HZ.out];rfl,BW.out⟩
   | some j=>
    rw[hf]at c0;have c0:wr.cell? ⟨S,3+o*8+k,aN⟩=aO (aj (aO ⟨L.ob j,0,aN⟩)):=c0;have HZ:ax (∀ i,i<k+1->¬ s.fds (o*8+i)=aN):=by
     show ∀ i,_;intro i hi;rcases gR i k with h|h
     ·exact HA.out i h
     ·rw[show i=k by omega,hf];simp
    have qs:=fun v:aw=>ae1 v ⟨L.ob j,0,aN⟩
    go_wp2;go_roundg (8-(k+1))
    case measure=>omega
    case rel=>exact⟨k+1,by omega,by omega,by go_num,BW.out,HZ.out⟩
  ·have eN:¬ (k:aF)<8:=by omega
   have HZ:ax (R = -1):=by show _=_;rw[<- HR.out];exact ES (fun j hj=>HA.out j (by omega))
   go_wp2;go_ret;exact⟨by rw[HZ.out];rfl,BW.out⟩
theorem wJ{s:Sy}{L:im}(h:bV aS W S s L)(o:aE)(ho:o<4):ay aP 70 #[aj (aO ⟨S,3+o*8,aN⟩)] W fun r w'=>r=aK (aL #[aa ag (if s.eF o<0 then 0 else s.eF o),aa ag (if s.eF o<0 then 5 else 0)])/\au W W w':=by
 have hI:=Ll h o ho;clear h;generalize s.eF o=R at hI ⊢;by_cases hR:R<0
 ·rw[aY hR,aY hR]
  go_enter func70,ntmps70;go_wp2_with (go_at_call 116;refine hI.mono ?_;clear hI;rintro e w1 ⟨rfl,hB⟩);go_ret2;exact⟨rfl,hB⟩
 ·rw[aW hR,aW hR]
  go_enter func70,ntmps70;go_wp2_with (go_at_call 116;refine hI.mono ?_;clear hI;rintro e w1 ⟨rfl,hB⟩);go_ret2;exact⟨rfl,hB⟩
def PM.has(use x:aF):Bool:=bits BinOp.and IntKind.i64 use x != 0
namespace PM
def Sy.dQ(s:Sy)(i:aE)(f:Fl):Sy:={ s with bh:=s.bh.set i f }
def Sy.jw(s:Sy)(j:aE)(o:qI):Sy:={ s with bJ:=s.bJ.set j o }
def Sy.dL(s:Sy)(k:aE)(j:aC aE):Sy:={ s with fds:=fun x=>if x=k then j else s.fds x }
def Sy.kg(s:Sy)(f:Fl):Sy:={ s with bh:=s.bh++[f] }
def Sy.kP(s:Sy)(o:qI):Sy:={ s with bJ:=s.bJ++[o] }
end PM
section
variable {aS:aE}{W X:aw}{S:aE}{s:Sy}{L:im}
theorem qL{α:Type}{l:aB α}{x y:α}(h:(l.set i x)[k]?=aO y):(k=i/\y=x/\i<l.length)\/(k≠i/\l[k]?=aO y):=by
 rw[eR]at h;split at h
 ·rename_i e
  split at h
  ·rename_i hl
   exact .inl ⟨e.symm,by injection h with h;exact h.symm,hl⟩
  ·cases h
 ·rename_i e
  exact .inr ⟨fun e'=>e e'.symm,h⟩
theorem bV.cM(h:bV aS W S s L){f':Fl}(hf:s.bh[i]?=aO f)(lp:aC aJ × aE)(hk:cA (·=L.fb i) W X)(hb:X.heap[L.fb i]?=aO (aM #[ai f'.bm,ai f'.text,ah lp.1 f'.b9.length lp.2] 169 (0,0)))(hl:St (Sp S s L) X (fun X=>LK.bI X lp.1 f'.b9))(hc:f'.b9.length<=lp.2)(hn:lp.1=aN->lp.2=0):bV aS X S (s.dQ i f') { L with lp:=fun k=>if k=i then lp else L.lp k }:=by
 have hi:=(aQ.1 hf).1;have J8:cA (Sp S s L) W X:=⟨hk.size,fun b hb hn=>hk.block b hb (fun e=>hn (.inr (.inr ⟨i,hi,e⟩)))⟩
 have qt:∀ b,Sp S (s.dQ i f') { L with lp:=fun k=>if k=i then lp else L.lp k } b↔Sp S s L b:=fun b=>by simp[Sp,Sy.dQ]
 refine⟨?_,fun j o ho=>?_,fun k g hg=>?_,h.Df,fun a b ha hb=>h.B6 a b (by simpa[Sy.dQ]using ha) (by simpa[Sy.dQ]using hb),?_,h.up,h.low,h.sI,h.sJ,h.qo,fun o ho=>by simpa[Sy.dQ]using h.pV o ho,fun b hb=>⟨(h.wF b hb).1,aZ (h.wF b hb).2 hk.size⟩,⟨h.aS.1,h.aS.2.1,fun k hk=>h.aS.2.2 k (by simpa[Sy.dQ]using hk)⟩⟩
 ·obtain⟨arr,ha,h1⟩:=h.blk
  exact⟨arr,(hk.block S h.lt (fun e=>h.Af hi e.symm)).trans ha,h1⟩
 ·exact(hk.block _ (h.Cs (aQ.1 ho).1) (h.Zf hi (aQ.1 ho).1)).trans (h.opn j o ho)
 ·rcases qL hg with⟨rfl,rfl,_⟩|⟨hne,hg⟩
  ·simpa using hb
  ·have Ux:=(aQ.1 hg).1
   show X.heap[L.fb k]?=aO (aM #[_,_,ah (if k=i then lp else L.lp k).1 _ (if k=i then lp else L.lp k).2] _ _);rw[aW hne];exact(hk.block _ (h.BL Ux) (fun e=>hne (h.B6 k i Ux hi e))).trans (h.tY k g hg)
 ·intro Y hY
  have hZ:cA (Sp S s L) X Y:=⟨hY.size,fun b hb hn=>hY.block b hb (fun e=>hn ((qt b).1 e))⟩
  have hd:=h.data Y (J8.trans hZ);refine⟨hd.un,hd.bA,fun k g hg=>?_⟩;show LK.bI Y (if k=i then lp else L.lp k).1 g.b9/\g.b9.length<=(if k=i then lp else L.lp k).2/\((if k=i then lp else L.lp k).1=aN->(if k=i then lp else L.lp k).2=0);rcases qL hg with⟨rfl,rfl,_⟩|⟨hne,hg⟩
  ·rw[aY rfl];exact⟨hl Y hZ,hc,hn⟩
  ·rw[aW hne];exact hd.b9 k g hg
theorem bV.Gv(h:bV aS W S s L){o o':qI}(ho:s.bJ[j]?=aO o)(Qx:o'.cM=o.cM)(hk:cA (·=L.ob j) W X)(hb:X.heap[L.ob j]?=aO (aM #[aj (aO ⟨L.fb o'.cM,0,aN⟩),aa ag o'.use,aa ag o'.pos] 80 (0,0))):bV aS X S (s.jw j o') L:=by
 have hj:=(aQ.1 ho).1;have J8:cA (Sp S s L) W X:=⟨hk.size,fun b hb hn=>hk.block b hb (fun e=>hn (.inr (.inl ⟨j,hj,e⟩)))⟩
 have qt:∀ b,Sp S (s.jw j o') L b↔Sp S s L b:=fun b=>by simp[Sp,Sy.jw]
 refine⟨?_,fun k g hg=>?_,fun i f hf=>?_,fun a b ha hb=>h.Df a b (by simpa[Sy.jw]using ha) (by simpa[Sy.jw]using hb),h.B6,?_,h.up,h.low,h.sI,h.sJ,fun k j' hk=>by simpa[Sy.jw]using h.qo k j' hk,fun g hg=>?_,fun b hb=>⟨(h.wF b hb).1,aZ (h.wF b hb).2 hk.size⟩,⟨h.aS.1,fun k hk=>h.aS.2.1 k (by simpa[Sy.jw]using hk),h.aS.2.2⟩⟩
 ·obtain⟨arr,ha,h1⟩:=h.blk
  exact⟨arr,(hk.block S h.lt (fun e=>h.one hj e.symm)).trans ha,h1⟩
 ·rcases qL hg with⟨rfl,rfl,_⟩|⟨hne,hg⟩
  ·exact hb
  ·have Ux:=(aQ.1 hg).1
   exact(hk.block _ (h.Cs Ux) (fun e=>hne (h.Df k j Ux hj e))).trans (h.opn k g hg)
 ·have hi:=(aQ.1 hf).1
  exact(hk.block _ (h.BL hi) (fun e=>h.Zf hi hj e.symm)).trans (h.tY i f hf)
 ·intro Y hY
  have hY:cA (Sp S s L) X Y:=⟨hY.size,fun b hb hn=>hY.block b hb (fun e=>hn ((qt b).1 e))⟩
  exact⟨(h.data Y (J8.trans hY)).un,(h.data Y (J8.trans hY)).bA,(h.data Y (J8.trans hY)).b9⟩
 ·obtain⟨k,Ux,hkg⟩:=kc.1 hg
  rcases qL (aQ.2 ⟨Ux,hkg⟩)with⟨_,rfl,_⟩|⟨_,Ei⟩
  ·rw[Qx];exact h.pV o (bw ho)
  ·exact h.pV g (bw Ei)
theorem bV.number(h:bV aS W S s L)(akW:k<32)(j:aC aE)(hj:∀ x,j=aO x->x<s.bJ.length)(v:az)(hv:v=aj (j.map fun j=>⟨L.ob j,0,aN⟩)):bV aS (W.setCell ⟨S,3+k,aN⟩ v) S (s.dL k j) L:=by
 have hk:cA (·=S) W (W.setCell ⟨S,3+k,aN⟩ v):=cA.set (sp:=(·=S)) rfl _ _ _;have J8:cA (Sp S s L) W (W.setCell ⟨S,3+k,aN⟩ v):=⟨hk.size,fun b hb hn=>hk.block b hb (fun e=>hn (.inl (.inl e)))⟩
 refine⟨?_,fun j o ho=>(hk.block _ (h.Cs (aQ.1 ho).1) (h.one (aQ.1 ho).1)).trans (h.opn j o ho),fun i f hf=>(hk.block _ (h.BL (aQ.1 hf).1) (h.Af (aQ.1 hf).1)).trans (h.tY i f hf),h.Df,h.B6,fun Y hY=>?_,h.up,h.low,h.sI,h.sJ,fun a b C0=>?_,h.pV,fun b hb=>⟨(h.wF b hb).1,aZ (h.wF b hb).2 hk.size⟩,h.aS⟩
 ·obtain⟨arr,ha,hs,a0,a1,a2,af⟩:=h.blk
  refine⟨_,dZ ha (3+k) v,by simp[hs],?_,?_,?_,fun x hx=>?_⟩
  ·rw[dR (by omega)];exact a0
  ·rw[dR (by omega)];exact a1
  ·rw[dR (by omega)];exact a2
  ·by_cases e:x=k
   ·subst e
    rw[jV (by omega),hv];show _=aO (Value.pointer (((if x=x then j else s.fds x)).map _));rw[aY rfl]
   ·rw[dR (by omega),af x hx]
    show _=aO (Value.pointer (((if x=k then j else s.fds x)).map _));rw[aW e]
 ·exact⟨(h.data Y (J8.trans hY)).un,(h.data Y (J8.trans hY)).bA,(h.data Y (J8.trans hY)).b9⟩
 ·have C0:(if a=k then j else s.fds a)=aO b:=C0
  by_cases e:a=k
  ·rw[aY e]at C0;exact hj b C0
  ·rw[aW e]at C0;exact h.qo a b C0
theorem lh{α:Type}{l:aB α}{x y:α}(h:(l++[x])[k]?=aO y):(k=l.length/\y=x)\/(k<l.length/\l[k]?=aO y):=by
 rcases gR k l.length with hk|hk
 ·rw[bR hk]at h;exact .inr ⟨hk,h⟩
 ·rw[cg hk]at h
  rcases Nat.eq_or_lt_of_le hk with e|e
  ·rw[<- e,aaK]at h;injection h with h;exact .inl ⟨e.symm,h.symm⟩
  ·rw[Cx (by simp;omega)]at h;cases h
theorem bV.VZ(h:bV aS W S s L)(p t:aA):∃ L':im,bV aS (W.alloc (aM #[ai p,ai t,ah aN 0 0] 169)) S (s.kg ⟨p,t,[]⟩) L'/\L'.ob=L.ob/\(∀ i,i<s.bh.length->L'.fb i=L.fb i)/\L'.fb s.bh.length=W/\L'.y=L.y/\L'.lo=L.lo/\L'.pl=L.pl/\L'.cl=L.cl/\L'.ex=L.ex:=by
 have hB:au W W (W.alloc (aM #[ai p,ai t,ah aN 0 0] 169)):=((Grown.refl W).alloc _).below;have hk:=h.bB hB;have j5:(W.alloc (aM #[ai p,ai t,ah aN 0 0] 169)).heap[W.heap.size]?=aO (aM #[ai p,ai t,ah aN 0 0] 169):=heap_alloc_last W _;have xZ:∀ i,i<s.bh.length->(if i=s.bh.length then W.heap.size else L.fb i)=L.fb i:=fun i hi=>aW (by omega)
 have O7:∀ i,i<s.bh.length->(if i=s.bh.length then((aN:aC aJ),0)else L.lp i)=L.lp i:=fun i hi=>aW (by omega)
 refine⟨{ L with fb:=fun i=>if i=s.bh.length then W.heap.size else L.fb i,lp:=fun i=>if i=s.bh.length then(aN,0)else L.lp i },⟨hk.blk,fun j o ho=>?_,fun i f hf=>?_,h.Df,fun a b ha hb e=>?_,?_,h.up,h.low,h.sI,h.sJ,h.qo,fun o ho=>?_,hk.wF,⟨h.aS.1,h.aS.2.1,fun i hi=>?_⟩⟩,rfl,xZ,aY rfl,rfl,rfl,rfl,rfl,rfl⟩
 ·have:=hk.opn j o ho
  show _=aO (Obj.cells #[aj (aO ⟨if o.cM=s.bh.length then W.heap.size else L.fb o.cM,0,aN⟩),_,_] _ _);rw[xZ _ (h.pV o (bw ho))];exact this
 ·show(W.alloc _).heap[if i=s.bh.length then W.heap.size else L.fb i]?=aO (aM #[_,_,ah (if i=s.bh.length then((aN:aC aJ),0)else L.lp i).1 _ (if i=s.bh.length then((aN:aC aJ),0)else L.lp i).2] _ _)
  rcases lh hf with⟨rfl,rfl⟩|⟨hi,hf⟩
  ·rw[aY rfl,aY rfl];exact j5
  ·rw[xZ i hi,O7 i hi];exact hk.tY i f hf
 ·have e:(if a=s.bh.length then W.heap.size else L.fb a)=(if b=s.bh.length then W.heap.size else L.fb b):=e
  have ha:a<s.bh.length+1:=by simpa[Sy.kg]using ha
  have hb:b<s.bh.length+1:=by simpa[Sy.kg]using hb
  by_cases ea:a=s.bh.length
  ·by_cases eb:b=s.bh.length
   ·omega
   ·rw[aY ea,aW eb]at e;have:=h.BL (i:=b) (by omega);omega
  ·by_cases eb:b=s.bh.length
   ·rw[aW ea,aY eb]at e;have:=h.BL (i:=a) (by omega);omega
   ·rw[aW ea,aW eb]at e;exact h.B6 a b (by omega) (by omega) e
 ·intro Y hY
  have hZ:cA (Sp S s L) W Y:=⟨bc (by simp) hY.size,fun b hb hn=>(hY.block b (by simp;omega) (fun hs=>hn (by
   rcases hs with(rfl|hx)|⟨j,hj,rfl⟩|⟨i,hi,rfl⟩
   ·exact .inl (.inl rfl)
   ·exact .inl (.inr hx)
   ·exact .inr (.inl ⟨j,hj,rfl⟩)
   ·have hi:i<s.bh.length+1:=by simpa[Sy.kg]using hi
    have hb:(if i=s.bh.length then W.heap.size else L.fb i)<W.heap.size:=hb;by_cases ei:i=s.bh.length
    ·rw[aY ei]at hb;omega
    ·exact .inr (.inr ⟨i,by omega,aW ei⟩)))).trans (hB.block b hb)⟩
  have hd:=h.data Y hZ;refine⟨hd.un,hd.bA,fun i f hf=>?_⟩;show LK.bI Y (if i=s.bh.length then((aN:aC aJ),0)else L.lp i).1 f.b9/\f.b9.length<=(if i=s.bh.length then((aN:aC aJ),0)else L.lp i).2/\((if i=s.bh.length then((aN:aC aJ),0)else L.lp i).1=aN->(if i=s.bh.length then((aN:aC aJ),0)else L.lp i).2=0);rcases lh hf with⟨rfl,rfl⟩|⟨hi,hf⟩
  ·rw[aY rfl];exact⟨.inl rfl,aV _,fun _=>rfl⟩
  ·rw[O7 i hi];exact hd.b9 i f hf
 ·have:=h.pV o ho
  simp[Sy.kg];omega
 ·show aS<=(if i=s.bh.length then W.heap.size else L.fb i)
  have hi:i<s.bh.length+1:=by simpa[Sy.kg]using hi
  by_cases ei:i=s.bh.length
  ·rw[aY ei];exact bc h.aS.1 (bM h.lt)
  ·rw[aW ei];exact h.aS.2.2 i (by omega)
end
namespace PM
def Sy.pathOf(s:Sy)(i:aE):aA:=((s.bh[i]?).map (·.bm)).getD ⟨#[]⟩
def Sy.um(s:Sy)(p:aA):aC aE:=s.cr.find? fun i=>decide ((s.pathOf i).data.toList=p.data.toList)
def Sy.anP(s:Sy)(p:aA):Sy × aE:=match s.um p with
 | some i=>(s,i)
 | none=>(s.kg ⟨p,⟨#[]⟩,[]⟩,s.bh.length)
end PM
theorem F0{α:Type}{P:α->Bool}{l:aB α}{x:α}(hk:l[k]?=aO x)(hx:P x=aI)(h:∀ y∈l.take k,P y=aH):l.find? P=aO x:=by
 induction l generalizing k with
 | nil=>simp at hk
 | cons a r ih=>
  cases k with
  | zero=>simp at hk;subst hk;simp[hx]
  | succ k =>have ha:P a=aH:=h a (by simp);rw[QT,ha];exact ih (by simpa using hk) (fun y hy=>h y (by simp[hy]))
theorem Rw{α:Type}{P:α->Bool}{l:aB α}(hk:l.length<=k)(h:∀ y∈l.take k,P y=aH):l.find? P=aN:=by rw[cz hk]at h;rw[nz];intro y hy;simp[h y hy]
namespace PM
def Sy.jS(s:Sy)(g:Fl->Fl)(l:aB aE):Sy:={ s with bh:=s.bh.mapIdx fun i f=>if i∈l then g f else f }
theorem Fz(s:Sy)(g:Fl->Fl):s.jS g []=s:=by
 unfold Sy.jS;have:(s.bh.mapIdx fun i f=>if i∈([]:aB aE)then g f else f)=s.bh:=by apply dz;intro k;simp
 rw[this]
theorem JU{s:Sy}(hf:s.bh[i]?=aO f)(hn:¬ i∈l):(s.jS g l).bh[i]?=aO f:=by simp[Sy.jS,hf,hn]
theorem DK{s:Sy}(hf:s.bh[i]?=aO f)(hn:¬ i∈l):s.jS g (l++[i])=(s.jS g l).dQ i (g f):=by
 unfold Sy.jS Sy.dQ;have:(s.bh.mapIdx fun k f=>if k∈l++[i]then g f else f)=(s.bh.mapIdx fun k f=>if k∈l then g f else f).set i (g f):=by
  apply dz;intro k;rw[eR,bO,bO];by_cases e:i=k
  ·subst e
   have hl:=(aQ.1 hf).1;rw[aY rfl,aY (by simpa using hl),hf];simp
  ·rw[aW e]
   cases s.bh[k]? with
   | none=>rfl
   | some x=>
    have e':¬ k=i:=fun h=>e h.symm
    simp[bZ,e']
 rw[this]
theorem DJ{s:Sy}(hf:s.bh[i]?=aO f)(hg:g f=f):s.jS g (l++[i])=s.jS g l:=by
 unfold Sy.jS;have:(s.bh.mapIdx fun k f=>if k∈l++[i]then g f else f)=(s.bh.mapIdx fun k f=>if k∈l then g f else f):=by
  apply dz;intro k;rw[bO,bO];by_cases e:k=i
  ·subst e
   rw[hf];by_cases hk:k∈l
   ·simp[hk]
   ·simp[hk,hg]
  ·cases s.bh[k]? with
   | none=>rfl
   | some x=>simp[bZ,e]
 rw[this]
theorem zq(h:l.Nodup)(hi:l[k]?=aO i):¬ i∈l.take k:=by
 intro hm;obtain⟨j,hj,Z7⟩:=kc.1 hm;rw[List.getElem_take]at Z7;obtain⟨hk,hki⟩:=aQ.1 hi;have Ns:j<k:=by simp at hj;omega
 exact(fD.1 h) j k (by omega) hk Ns (Z7.trans hki.symm)
theorem MJ{l d:aB UInt8}(h:anG l d=aI):d.length<=l.length:=by
 by_cases hd:d=[]
 ·rw[hd];simp
 ·obtain⟨r,hr⟩:=(eB l d hd).1 h
  rw[hr];simp
def Sy.oG(s:Sy)(q:aA)(f:Fl):Fl:=if f.bm.data.toList=q.data.toList then⟨⟨#[]⟩,s.cQ f,f.b9⟩else f
def jM(bS dst:aA)(f:Fl):Fl:=if f.bm.data.toList=bS.data.toList\/anG f.bm bS.data.toList=aI then⟨dst++f.bm.extract bS.size f.bm.size,f.text,f.b9⟩else f
def Sy.anN(s:Sy)(q:aA):Sy:=s.jS (s.oG q) s.cr
def Sy.carry(s:Sy)(bS dst:aA):Sy:=s.jS (jM bS dst) s.cr
end PM
section
variable {aS:aE}{W X:aw}{S:aE}{s:Sy}{L:im}
theorem bV.Rt(h:bV aS W S s L){f':Fl}(hf:s.bh[i]?=aO f)(abG:f'.b9=f.b9)(hk:cA (·=L.fb i) W X)(hb:X.heap[L.fb i]?=aO (aM #[ai f'.bm,ai f'.text,ah (L.lp i).1 f'.b9.length (L.lp i).2] 169 (0,0))):bV aS X S (s.dQ i f') L:=by
 have hi:=(aQ.1 hf).1;have J8:cA (Sp S s L) W X:=⟨hk.size,fun b hb hn=>hk.block b hb (fun e=>hn (.inr (.inr ⟨i,hi,e⟩)))⟩
 have hd:=h.data.now.b9 i f hf;have:=h.cM hf (L.lp i) hk hb (fun Y hY=>by rw[abG];exact((h.data Y (J8.trans hY)).b9 i f hf).1) (by rw[abG];exact hd.2.1) hd.2.2;have e:({ L with lp:=fun k=>if k=i then L.lp i else L.lp k }:im)=L:=by
  have:(fun k=>if k=i then L.lp i else L.lp k)=L.lp:=by
   funext k;by_cases hk:k=i
   ·rw[aY hk,hk]
   ·rw[aW hk]
  rw[this]
 rw[e]at this;exact this
theorem uD.st{bs:aB aE}(h:uD w p bs)(hn:∀ b off s,p=aO ⟨b,off,s⟩->¬ sp b)(hk:cA sp w W):uD W p bs:=by
 rcases h with h|⟨b,off,hp,hb,hc⟩
 ·exact .inl h
 ·exact .inr ⟨b,off,hp,aZ hb hk.size,fun j x hx=>(gY (hk.block b hb (hn b off aN hp)) _).trans (hc j x hx)⟩
end
theorem nh{x y z:az}(h:W.heap[b]?=aO (aM #[x,y,z] t (0,0)))(v:az):(W.setCell ⟨b,1,aN⟩ v).heap[b]?=aO (aM #[x,v,z] t (0,0))/\(W.setCell b v).heap[b]?=aO (aM #[v,y,z] t (0,0))/\(W.setCell ⟨b,2,aN⟩ v).heap[b]?=aO (aM #[x,y,v] t (0,0)):=by refine⟨?_,?_,?_⟩<;>(rw[dZ h];rfl)
def Fb(s:Sy)(L:im)(b:aE):Prop:=∃ i,i<s.bh.length/\b=L.fb i
theorem cA.pw{sp':aE->Prop}(h:cA sp W X)(hs:∀ b,sp b->sp' b):cA sp' W X:=⟨h.size,fun b hb hn=>h.block b hb (fun e=>hn (hs b e))⟩
def Hk(aS S:aE)(s s':Sy)(L:im)(W:aw)(r:Ending)(W':aw):Prop:=r=aK (aL #[])/\bV aS W' S s' L/\au aS W W'/\cA (Fb s L) W W'
structure xA (aS S:aE) (s:Sy) (g:Fl->Fl) (L:im) (W w1:aw) (k:aE) (wr:aw):Prop where
 at':bV aS wr S (s.jS g (s.cr.take k)) L
 keep:cA (Fb s L) w1 wr
 below:au aS W wr
theorem Bj{s:Sy}{L:im}(h:bV aS W S s L)(q:aA)(iL:∀ i∈s.cr,∀ f,s.bh[i]?=aO f->f.bm.size<=80):ay aP 81 #[aj (aO S),ai q] W (Hk aS S s (s.anN q) L W):=by
 have hfl:=wH h;have HS:ax (bV aS W S s L):=h;have HZ:ax (∀ i∈s.cr,∀ f,s.bh[i]?=aO f->f.bm.size<=80):=iL;have Pb:s.cr.length<=32:=tA s 32;obtain⟨n,hn⟩:=ee s.cr.length
 have HN:ax (n=s.cr.length):=hn;rw[<- hn]at Pb;clear h hn iL;go_enter func81,ntmps81;go_wp2_with (go_at_call 11;refine hfl.mono ?_;clear hfl;rintro e w1 ⟨⟨v,rfl,hP⟩,hB⟩;obtain⟨p,c,rfl,KS,_,_,sZ⟩:=hP.form;have EE:ax (uD w1 p (kU s L 32)/\au W W w1/\∀ b off s,p=aO ⟨b,off,s⟩->W.heap.size<=b):=⟨KS,hB,sZ⟩;rw[show(kU s L 32).length=n from by rw[HN.out];simp[kU,Sy.cr]];clear hP KS hB sZ);have H0:ax (xA aS S s (s.oG q) L W w1 0 w1):=⟨by rw[Ea,Fz];exact HS.bB EE.2.1,cA.refl _ _,EE.2.1.mono (bc HS.aS.1 (bM HS.lt))⟩
 go_loopg [9] n (fun gg s9 wr=>∃ k:aE,k<=n/\n-k<=gg/\s9=aa ag k/\ax (xA aS S s (s.oG q) L W w1 k wr))
 case atStart=>exact⟨0,bF _,by omega,rfl,H0.out⟩
 case round=>
  obtain⟨k,hk,oP,rfl,HI⟩:=hrel;by_cases gm:k<n
  ·have eN:(k:aF)<(n:aF):=by omega
   obtain⟨i,hi⟩:∃ i,s.cr[k]?=aO i:=⟨_,aU (by have:=HN.out;omega)⟩
   have him:=bw hi;have YI:=HS.vY 32 i him;obtain⟨f,hf⟩:∃ f,s.bh[i]?=aO f:=⟨_,aU YI⟩
   have kV:(kU s L 32)[k]?=aO (L.fb i):=by show(s.cr.map L.fb)[k]?=_;rw[cD,hi];rfl
   have YP:¬ i∈s.cr.take k:=zq (sr s 32) hi;have J6:=JU (g:=s.oG q) hf YP;have KS:=uD.st EE.1 (fun b off s' e qt=>by have h1:=EE.2.2 b off s' e;have h2:=(HS.od (.inr (.inr qt))).2;omega) HI.keep;rcases KS with h0|⟨b,off,rfl,hb,hc⟩
   ·rw[h0]at kV;simp at kV
   have c0:wr.cell? ⟨b,off+k,aN⟩=aO (aj (aO ⟨L.fb i,0,aN⟩)):=hc k _ kV;obtain⟨⟨c1,c2,_⟩,g1,g2,_⟩:=HI.at'.tX J6;have lz:ay aP 129 #[aj (aO S),aj (aO ⟨L.fb i,0,aN⟩)] wr fun r w'=>r=aK (ai (s.cQ f))/\au wr wr w':=wk HI.at' J6 (HZ.out i him f hf) wr (aR _ _)
   have hfl:=HI.at'.BL (i:=i) (aQ.1 J6).1;obtain⟨tx,Y6⟩:=ee (s.cQ f)
   rw[<- Y6]at lz;have HTX:ax (tx=s.cQ f/\s.bh[i]?=aO f/\(s.jS (s.oG q) (s.cr.take k)).bh[i]?=aO f/\s.cr.take (k+1)=s.cr.take k++[i]/\¬ i∈s.cr.take k):=⟨Y6,hf,J6,by rw[jv,hi];rfl,YP⟩
   clear hc kV hi hf J6 YP Y6;by_cases heq:f.bm.data.toList=q.data.toList
   ·have q1:(f.bm.toList == q.toList)=aI:=by rw[bq,bq,heq];simp
    go_wp2_with (go_at_call 129;refine lz.mono ?_;clear lz;rintro e w2 ⟨rfl,fC⟩;have d0:=(fC.cell (p:=⟨L.fb i,0,aN⟩) hfl).trans c1;have d1:=(fC.cell (p:=⟨L.fb i,1,aN⟩) hfl).trans c2;have e0:=(fC.frozen (p:=⟨L.fb i,0,aN⟩) hfl).trans g1;have e1:=(fC.frozen (p:=⟨L.fb i,1,aN⟩) hfl).trans g2);have HJ:ax (xA aS S s (s.oG q) L W w1 (k+1) ((w2.setCell ⟨L.fb i,1,aN⟩ (ai tx)).setCell ⟨L.fb i,0,aN⟩ (ai ⟨#[]⟩))):=by
     obtain⟨x1,x2,x3,x4,x5⟩:=HTX.out;have qt:Fb s L (L.fb i):=⟨i,(aQ.1 x2).1,rfl⟩
     have sN:=HI.at'.bB fC;have hb:=(nh (nh (sN.tY i f x3) (ai tx)).1 (ai ⟨#[]⟩)).2.1;refine⟨?_,((HI.keep.trans (cA.dB _ fC)).trans (cA.set qt _ 1 _)).trans (cA.set qt _ 0 _),?_⟩
     ·rw[x4,DK x2 x5]
      have hr:s.oG q f=⟨⟨#[]⟩,tx,f.b9⟩:=by rw[Sy.oG,aY heq,x1]
      rw[hr];exact sN.Rt x3 rfl ((cA.set (sp:=(·=L.fb i)) rfl _ 1 _).trans (cA.set (sp:=(·=L.fb i)) rfl _ 0 _)) hb
     ·have pN:=(HS.od (.inr (.inr qt))).1
      have DU:=HI.at'.aS.1;exact((HI.below.trans (fC.mono (bc DU (bM HI.at'.lt)))).setCell (p:=⟨L.fb i,1,aN⟩) pN _).setCell (p:=⟨L.fb i,0,aN⟩) pN _
    go_roundg (n-(k+1))
    case measure=>omega
    case rel=>exact⟨k+1,by omega,by omega,by go_num,HJ.out⟩
   ·have q1:(f.bm.toList == q.toList)=aH:=by rw[bq,bq];simpa using heq
    have HJ:ax (xA aS S s (s.oG q) L W w1 (k+1) wr):=by obtain⟨x1,x2,x3,x4,x5⟩:=HTX.out;refine⟨?_,HI.keep,HI.below⟩;rw[x4,DJ x2 (by rw[Sy.oG,aW heq])];exact HI.at'
    clear lz;go_wp2;go_roundg (n-(k+1))
    case measure=>omega
    case rel=>exact⟨k+1,by omega,by omega,by go_num,HJ.out⟩
  ·have eN:¬ (k:aF)<(n:aF):=by omega
   have HJ:ax (bV aS wr S (s.anN q) L):=by have:=HI.at';rw[cz (by have:=HN.out;omega)]at this;exact this
   go_wp2;refine sM (eC rfl _ _ _) rfl ?_;exact⟨rfl,HJ.out,HI.below,(cA.dB _ EE.2.1).trans HI.keep⟩
theorem EK{s:Sy}{L:im}(h:bV aS W S s L)(bS dst:aA)(rR:bS.size<=80)(hds:dst.size<=80)(iL:∀ i∈s.cr,∀ f,s.bh[i]?=aO f->f.bm.size<=80):ay aP 84 #[aj (aO S),ai bS,ai dst] W (Hk aS S s (s.carry bS dst) L W):=by
 have hfl:=wH h;have HS:ax (bV aS W S s L):=h;have HZ:ax (∀ i∈s.cr,∀ f,s.bh[i]?=aO f->f.bm.size<=80):=iL;have Pb:s.cr.length<=32:=tA s 32;obtain⟨n,hn⟩:=ee s.cr.length
 have HN:ax (n=s.cr.length):=hn;rw[<- hn]at Pb;clear h hn iL;go_enter func84,ntmps84;go_wp2_with (go_at_call 11;refine hfl.mono ?_;clear hfl;rintro e w1 ⟨⟨v,rfl,hP⟩,hB⟩;obtain⟨p,c,rfl,KS,_,_,sZ⟩:=hP.form;have EE:ax (uD w1 p (kU s L 32)/\au W W w1/\∀ b off s,p=aO ⟨b,off,s⟩->W.heap.size<=b):=⟨KS,hB,sZ⟩;rw[show(kU s L 32).length=n from by rw[HN.out];simp[kU,Sy.cr]];clear hP KS hB sZ);have H0:ax (xA aS S s (jM bS dst) L W w1 0 w1):=⟨by rw[Ea,Fz];exact HS.bB EE.2.1,cA.refl _ _,EE.2.1.mono (bc HS.aS.1 (bM HS.lt))⟩
 go_loopg [11] n (fun gg s9 wr=>∃ k:aE,k<=n/\n-k<=gg/\s9=aa ag k/\ax (xA aS S s (jM bS dst) L W w1 k wr))
 case atStart=>exact⟨0,bF _,by omega,rfl,H0.out⟩
 case round=>
  obtain⟨k,hk,oP,rfl,HI⟩:=hrel;by_cases gm:k<n
  ·have eN:(k:aF)<(n:aF):=by omega
   obtain⟨i,hi⟩:∃ i,s.cr[k]?=aO i:=⟨_,aU (by have:=HN.out;omega)⟩
   have him:=bw hi;have YI:=HS.vY 32 i him;obtain⟨f,hf⟩:∃ f,s.bh[i]?=aO f:=⟨_,aU YI⟩
   have kV:(kU s L 32)[k]?=aO (L.fb i):=by show(s.cr.map L.fb)[k]?=_;rw[cD,hi];rfl
   have YP:¬ i∈s.cr.take k:=zq (sr s 32) hi;have J6:=JU (g:=jM bS dst) hf YP;have KS:=uD.st EE.1 (fun b off s' e qt=>by have h1:=EE.2.2 b off s' e;have h2:=(HS.od (.inr (.inr qt))).2;omega) HI.keep;rcases KS with h0|⟨b,off,rfl,hb,hc⟩
   ·rw[h0]at kV;simp at kV
   have c0:wr.cell? ⟨b,off+k,aN⟩=aO (aj (aO ⟨L.fb i,0,aN⟩)):=hc k _ kV;obtain⟨⟨c1,c2,_⟩,g1,g2,_⟩:=HI.at'.tX J6;have hfl:=HI.at'.BL (i:=i) (aQ.1 J6).1;have hpz:=HZ.out i him f hf;have nI:=rq f.bm bS wr (by unfold maxLen;omega) (by unfold maxLen;omega);have HTX:ax (True/\s.bh[i]?=aO f/\(s.jS (jM bS dst) (s.cr.take k)).bh[i]?=aO f/\s.cr.take (k+1)=s.cr.take k++[i]/\¬ i∈s.cr.take k):=⟨trivial,hf,J6,by rw[jv,hi];rfl,YP⟩
   clear hc kV hi hf J6 YP;have HJ:ax (jM bS dst f=⟨dst++f.bm.extract bS.size f.bm.size,f.text,f.b9⟩->xA aS S s (jM bS dst) L W w1 (k+1) (wr.setCell ⟨L.fb i,0,aN⟩ (ai (dst++f.bm.extract bS.size f.bm.size)))):=by
    show _->_;intro K3;obtain⟨_,x2,x3,x4,x5⟩:=HTX.out;have qt:Fb s L (L.fb i):=⟨i,(aQ.1 x2).1,rfl⟩
    have hb:=(nh (HI.at'.tY i f x3) (ai (dst++f.bm.extract bS.size f.bm.size))).2.1;refine⟨?_,HI.keep.trans (cA.set qt _ 0 _),HI.below.setCell (p:=⟨L.fb i,0,aN⟩) (HS.od (.inr (.inr qt))).1 _⟩;rw[x4,DK x2 x5,K3];exact HI.at'.Rt x3 rfl (cA.set (sp:=(·=L.fb i)) rfl _ 0 _) hb
   by_cases heq:f.bm.data.toList=bS.data.toList
   ·have q1:(f.bm.toList == bS.toList)=aI:=by rw[bq,bq,heq];simp
    have hle:bS.size<=f.bm.size:=by have h1:=ix bS;have h2:=ix f.bm;rw[heq]at h2;omega
    have HC:=HJ.out (by rw[jM,aY (.inl heq)]);have HC:ax (xA aS S s (jM bS dst) L W w1 (k+1) (wr.setCell ⟨L.fb i,0,aN⟩ (ai (dst++f.bm.extract bS.size f.bm.size)))):=HC;clear nI;go_wp2;go_roundg (n-(k+1))
    case measure=>omega
    case rel=>exact⟨k+1,by omega,by omega,by go_num,HC.out⟩
   ·have q1:(f.bm.toList == bS.toList)=aH:=by rw[bq,bq];simpa using heq
    cases hu:anG f.bm bS with
    | true=>
     rw[hu]at nI;have hle:bS.size<=f.bm.size:=by have h1:=ix bS;have h2:=ix f.bm;have:=MJ hu;omega
     have HC:=HJ.out (by rw[jM,aY (.inr hu)]);have HC:ax (xA aS S s (jM bS dst) L W w1 (k+1) (wr.setCell ⟨L.fb i,0,aN⟩ (ai (dst++f.bm.extract bS.size f.bm.size)))):=HC;go_wp2_with (go_at_call 134;refine nI.mono ?_;clear nI;rintro e w2 ⟨rfl,xw⟩;subst w2);go_roundg (n-(k+1))
     case measure=>omega
     case rel=>exact⟨k+1,by omega,by omega,by go_num,HC.out⟩
    | false=>
     rw[hu]at nI;have HC:ax (xA aS S s (jM bS dst) L W w1 (k+1) wr):=by obtain⟨_,x2,x3,x4,x5⟩:=HTX.out;refine⟨?_,HI.keep,HI.below⟩;rw[x4,DJ x2 (by rw[jM,aW (by simp[heq,hu])])];exact HI.at'
     go_wp2_with (go_at_call 134;refine nI.mono ?_;clear nI;rintro e w2 ⟨rfl,xw⟩;subst w2);go_roundg (n-(k+1))
     case measure=>omega
     case rel=>exact⟨k+1,by omega,by omega,by go_num,HC.out⟩
  ·have eN:¬ (k:aF)<(n:aF):=by omega
   have HJ:ax (bV aS wr S (s.carry bS dst) L):=by have:=HI.at';rw[cz (by have:=HN.out;omega)]at this;exact this
   go_wp2;refine sM (eC rfl _ _ _) rfl ?_;exact⟨rfl,HJ.out,HI.below,(cA.dB _ EE.2.1).trans HI.keep⟩
