import Derived.Test.YtjnkfelecopbjaaGreatDoorYA15
import Derived.Lib.ConvBytes
open Go.Value renaming int->aa,slice->ah,string->ai,bool->aq,agg->ar,tuple->aL
open Go.IntKind renaming i64->ag
open Go.RowKit renaming Below->au
open Go renaming World->aw,Aside->ax,Calls->ay,Value->az,Addr->aJ
open _root_ renaming ByteArray->aA,List->aB,Option->aC,UInt8->aD,Nat->aE,Int->aF,absurd->aG
open Bool renaming false->aH,true->aI
open Go.Ending renaming returned->aK
open Go.Obj renaming cells->aM
open Option renaming none->aN,some->aO
open Go.Proofs.Tryz renaming prog->aP
set_option linter.all false
set_option maxHeartbeats 4000000
set_option maxRecDepth 100000
namespace Go.Proofs.YtjnkfelecopbjaaGreatDoor
open Go.RowKit PM Go.Sort
variable{c:aE->az}{e:TypeId}{g i n:aE}{v:az}{xs:aB az}
structure Ov where
 bm:aA
 text:aA
 p:aC aJ
 k:aE
 c:aE
structure ja where
 y:Lay
 lo:aB Lay
 pl:aC aJ
 cl:aE
 ps:aC aJ
 sc:aE
 ov:aB Ov
 vo:az
 vd:az
 ex:aE->Prop
def yV(x:Ov):aB az:=[ai x.bm,ai x.text,ah x.p x.k x.c]
def yU(o:qI):aB az:=[aa ag o.cM,aa ag o.use,aa ag o.pos]
def DT(s:Sy)(k:aE):aF:=match s.fds k with
 | none => -1
 | some j=>(j:aF)
def gV(B:aE)(L:ja)(b:aE):Prop:=b=B\/L.vo.ownBlock=aO b\/L.vd.ownBlock=aO b
def yJ(B:aE)(L:ja)(b:aE):Prop:=gV B L b\/L.ex b
def oI(W:aw)(B:aE)(c:aE->az):Prop:=∃ arr:Array az,W.heap[B]?=aO (aM arr 64 (0,0))/\arr.size=37/\∀ i,i<37->arr[i]?=aO (c i)
def cellW(s:Sy)(L:ja):aE->az
 | 0=>ah L.y.ad L.y.es.length L.y.cap
 | 1=>ah L.pl L.lo.length L.cl
 | 2=>ah L.ps s.bA.length L.sc
 | 3=>L.vo
 | 4=>L.vd
 | k+5=>aa ag (DT s k)
structure Ww (s:Sy) (L:ja) (W:aw):Prop where
 un:eZ W L.y L.lo L.pl L.cl
 bA:bI W L.ps s.bA
 b9:∀ (i:aE) (f:Fl),s.bh[i]?=aO f->∃ x:Ov,L.ov[i]?=aO x/\x.bm=f.bm/\x.text=f.text/\x.k=f.b9.length/\LK.bI W x.p f.b9/\x.k<=x.c/\(x.p=aN->x.c=0)
structure cW (aS:aE) (W:aw) (B:aE) (s:Sy) (L:ja):Prop where
 blk:oI W B (cellW s L)
 objs:W.ownsRow aS 98 3 L.vo s.bh.length (L.ov.flatMap yV)
 nC:W.ownsRow aS 103 3 L.vd s.bJ.length (s.bJ.flatMap yU)
 data:St (yJ B L) W (Ww s L)
 num:L.ov.length=s.bh.length
 up:L.y.es=s.up
 low:L.lo.map (·.es)=s.cq
 sI:s.bA.length<=L.sc
 sJ:L.ps=aN->L.sc=0
 qo:∀ k j,s.fds k=aO j->j<s.bJ.length
 pV:∀ o∈s.bJ,o.cM<s.bh.length
 wF:∀ b,L.ex b->aS<=b/\b<W.heap.size
 aS:aS<=B
theorem WO{α:Type}(enc:α->aB az)(h3:∀ x,(enc x).length=3):∀ (l:aB α) (i:aE) {x:α},l[i]?=aO x->∀ j,j<3->(l.flatMap enc)[i*3+j]?=(enc x)[j]?
 | [],i,x,h,_,_=>by simp at h
 | a::r,0,x,h,j,hj=>by simp at h;subst h;rw[eQ,bR (by rw[h3];omega),aaL,dD]
 | a::r,i+1,x,h,j,hj=>by rw[eQ,cg (by rw[h3];omega),h3,show(i+1)*3+j-3=i*3+j by omega];exact WO enc h3 r i (by simpa using h) j hj
theorem Ae{α:Type}(enc:α->aB az)(h3:∀ x,(enc x).length=3):∀ (l:aB α) (i:aE) {x y:α},l[i]?=aO x->∀ (j:aE) (v:az),j<3->enc y=(enc x).set j v->(l.set i y).flatMap enc=(l.flatMap enc).set (i*3+j) v
 | [],i,x,y,h,_,_,_,_=>by simp at h
 | a::r,0,x,y,h,j,v,hj,he=>by simp at h;subst h;rw[List.set_cons_zero,eQ,eQ,List.set_append_left _ _ (by rw[h3];omega),he,aaL,dD]
 | a::r,i+1,x,y,h,j,v,hj,he=>by rw[List.set_cons_succ,eQ,eQ,List.set_append_right _ _ (by rw[h3];omega),h3,show(i+1)*3+j-3=i*3+j by omega,Ae enc h3 r i (by simpa using h) j v hj he]
theorem WN(x:Ov):(yV x).length=3:=rfl
theorem WM(o:qI):(yU o).length=3:=rfl
theorem acL{α:Type}{enc:α->aB az}(h3:∀ x,(enc x).length=3){W:aw}{aS:aE}{t:TypeId}{l:aB α}(h:W.ownsRow aS t 3 v l.length (l.flatMap enc)){x:α}(hx:l[i]?=aO x):∃ g c,v=ah (aO ⟨g,0,aN⟩) l.length c/\g<W.heap.size/\aS<=g/\(∀ j u,(enc x)[j]?=aO u->W.cell? ⟨g,i*3+j,aN⟩=aO u)/\∀ j,W.frozen? ⟨g,j,aN⟩=aH:=by
 have hi:=(aQ.1 hx).1;rcases h.2 with⟨_,h0⟩|⟨g,c,eI,rfl,hb,hg,_⟩
 ·omega
 ·refine⟨g,c,rfl,(aX.1 hg).1,hb,fun j u hu=>?_,fun j=>World.ownsRow.frozenAt h j⟩
  have hj:j<3:=by have:=(aQ.1 hu).1;rw[h3]at this;exact this
  rw[World.ownsRow.cellAt h _ (by omega),WO enc h3 l i hx j hj];exact hu
section
variable {aS:aE}{W X:aw}{B:aE}{s:Sy}{L:ja}
theorem cW.lt(h:cW aS W B s L):B<W.heap.size:=by obtain⟨arr,hb,_⟩:=h.blk;exact(aX.1 hb).1
theorem cW.Mz(h:cW aS W B s L){b:aE}(hb:yJ B L b):aS<=b/\b<W.heap.size:=by
 rcases hb with(rfl|hb|hb)|hb
 ·exact⟨h.aS,h.lt⟩
 ·exact h.objs.lt b hb
 ·exact h.nC.lt b hb
 ·exact h.wF b hb
theorem fw{size:aE}(h:W.ownsRow aS e size v n xs)(hk:∀ g,v.ownBlock=aO g->X.heap[g]?=W.heap[g]?):X.ownsRow aS e size v n xs:=by
 rcases h with⟨h1,h2|⟨g,c,eI,hv,hb,hg,hr⟩⟩
 ·exact⟨h1,.inl h2⟩
 ·exact⟨h1,.inr ⟨g,c,eI,hv,hb,(hk g (by rw[hv];rfl)).trans hg,hr⟩⟩
theorem cW.bB(h:cW aS W B s L)(hB:au W W X):cW aS X B s L:=by exact⟨(by obtain⟨arr,hb,h1⟩:=h.blk;exact⟨arr,(hB.block B h.lt).trans hb,h1⟩),fw h.objs fun g hg=>hB.block g (h.objs.lt g hg).2,fw h.nC fun g hg=>hB.block g (h.nC.lt g hg).2,h.data.on (cA.dB _ hB),h.num,h.up,h.low,h.sI,h.sJ,h.qo,h.pV,fun b hb=>⟨(h.wF b hb).1,aZ (h.wF b hb).2 hB.size⟩,h.aS⟩
theorem oI.cell(h:oI W B c)(hi:i<37):W.cell? ⟨B,i,aN⟩=aO (c i):=by obtain⟨arr,hb,_,h1⟩:=h;simp[World.cell?,hb,h1 i hi]
theorem oI.EW(h:oI W B c)(i:aE):W.frozen? ⟨B,i,aN⟩=aH:=by obtain⟨arr,hb,_⟩:=h;simp[World.frozen?,hb]
theorem oI.put(h:oI W B c)(i:aE)(v:az):oI (W.setCell ⟨B,i,aN⟩ v) B fun j=>if j=i then v else c j:=by
 obtain⟨arr,hb,h0,h1⟩:=h;refine⟨arr.setIfInBounds i v,dZ hb i v,by simpa using h0,fun j hj=>?_⟩;rw[fE];by_cases e:i=j
 ·subst e
  rw[aY rfl,aY (by omega)];simp
 ·rw[aW e,h1 j hj]
  simp only[aW (fun e':j=i=>e e'.symm)]
theorem oI.same(h:oI W B c)(hb:X.heap[B]?=W.heap[B]?):oI X B c:=by obtain⟨arr,h0,h1⟩:=h;exact⟨arr,hb.trans h0,h1⟩
theorem oI.as{d:aE->az}(h:oI W B c)(e:∀ i,i<37->c i=d i):oI W B d:=by obtain⟨arr,h0,h1,h2⟩:=h;exact⟨arr,h0,h1,fun i hi=>by rw[<- e i hi];exact h2 i hi⟩
theorem cW.cells(h:cW aS W B s L):W.cell? B=aO (ah L.y.ad L.y.es.length L.y.cap)/\W.cell? ⟨B,1,aN⟩=aO (ah L.pl L.lo.length L.cl)/\W.cell? ⟨B,2,aN⟩=aO (ah L.ps s.bA.length L.sc)/\W.cell? ⟨B,3,aN⟩=aO L.vo/\W.cell? ⟨B,4,aN⟩=aO L.vd:=
 ⟨h.blk.cell (i:=0) (by decide),h.blk.cell (i:=1) (by decide),h.blk.cell (i:=2) (by decide),h.blk.cell (i:=3) (by decide),h.blk.cell (i:=4) (by decide)⟩
theorem cW.fd(h:cW aS W B s L){k:aE}(hk:k<32):W.cell? ⟨B,5+k,aN⟩=aO (aa ag (DT s k)):=by have:=h.blk.cell (i:=k+5) (by omega);rw[nA k 5]at this;rw[this,nA 5 k];rfl
theorem cW.EW(h:cW aS W B s L)(i:aE):W.frozen? ⟨B,i,aN⟩=aH:=by obtain⟨arr,hb,_⟩:=h.blk;simp[World.frozen?,hb]
theorem cW.other(h:cW aS W B s L){b:aE}{cs:Array az}{t:TypeId}{f:aE × aE}(hb:W.heap[b]?=aO (aM cs t f))(h1:t≠64)(h2:t≠98)(h3:t≠103):¬ gV B L b:=by
 rintro(rfl|e|e)
 ·obtain⟨arr,ot,_⟩:=h.blk
  rw[hb]at ot;simp only[dt,rz]at ot;exact h1 ot.2.1
 ·rcases h.objs.2 with⟨hv,_⟩|⟨g,c,eI,hv,_,hg,_⟩
  ·rw[hv]at e;cases e
  ·rw[hv]at e
   cases e;rw[hb]at hg;simp only[dt,rz]at hg;exact h2 hg.2.1
 ·rcases h.nC.2 with⟨hv,_⟩|⟨g,c,eI,hv,_,hg,_⟩
  ·rw[hv]at e;cases e
  ·rw[hv]at e
   cases e;rw[hb]at hg;simp only[dt,rz]at hg;exact h3 hg.2.1
theorem cW.rJ(h:cW aS W B s L)(hg:L.vo.ownBlock=aO g\/L.vd.ownBlock=aO g):g≠B:=by
 rintro rfl;obtain⟨arr,ot,_⟩:=h.blk;rcases hg with e|e
 ·rcases h.objs.2 with⟨hv,_⟩|⟨g,c,eI,hv,_,hg,_⟩
  ·rw[hv]at e;cases e
  ·rw[hv]at e
   cases e;rw[hg]at ot;simp only[dt,rz]at ot;exact aG ot.2.1 (by decide)
 ·rcases h.nC.2 with⟨hv,_⟩|⟨g,c,eI,hv,_,hg,_⟩
  ·rw[hv]at e;cases e
  ·rw[hv]at e
   cases e;rw[hg]at ot;simp only[dt,rz]at ot;exact aG ot.2.1 (by decide)
theorem cW.of(h:cW aS W B s L)(hk:cA (gV B L) W X){s':Sy}{L':ja}(hb:oI X B (cellW s' L'))(ho:X.ownsRow aS 98 3 L'.vo s'.bh.length (L'.ov.flatMap yV))(hd:X.ownsRow aS 103 3 L'.vd s'.bJ.length (s'.bJ.flatMap yU))(qt:∀ b,gV B L' b->gV B L b\/W.heap.size<=b)(hda:∀ Y,cA (yJ B L) W Y->cA (yJ B L') X Y->Ww s' L' Y)(hn:L'.ov.length=s'.bh.length)(hu:L'.y.es=s'.up)(hl:L'.lo.map (·.es)=s'.cq)(h1:s'.bA.length<=L'.sc)(h2:L'.ps=aN->L'.sc=0)(h3:∀ k j,s'.fds k=aO j->j<s'.bJ.length)(h4:∀ o∈s'.bJ,o.cM<s'.bh.length)(hx:L'.ex=L.ex):cW aS X B s' L':=
 ⟨hb,ho,hd,fun Y hY=>hda Y ⟨bc hk.size hY.size,fun b hb hn=>(hY.block b (aZ hb hk.size) (fun e=>e.elim (fun e=>(qt b e).elim (fun e=>hn (.inl e)) (fun e=>by omega)) (fun e=>hn (.inr (hx▸e))))).trans (hk.block b hb (fun e=>hn (.inl e)))⟩ hY,hn,hu,hl,h1,h2,h3,h4,fun b hb=>⟨(h.wF b (hx▸hb)).1,aZ (h.wF b (hx▸hb)).2 hk.size⟩,h.aS⟩
theorem cW.dL(h:cW aS W B s L){k:aE}(hk:k<32){j:aC aE}{v:aF}(hv:v=match j with|none => -1|some j=>(j:aF))(hj:∀ i,j=aO i->i<s.bJ.length):cW aS (W.setCell ⟨B,5+k,aN⟩ (aa ag v)) B (s.dL k j) L/\cA (gV B L) W (W.setCell ⟨B,5+k,aN⟩ (aa ag v)):=by
 have hK:cA (gV B L) W (W.setCell ⟨B,5+k,aN⟩ (aa ag v)):=cA.set (.inl rfl) W _ _;have hne:∀ g,L.vo.ownBlock=aO g\/L.vd.ownBlock=aO g->(W.setCell ⟨B,5+k,aN⟩ (aa ag v)).heap[g]?=W.heap[g]?:=fun g hg=>cI _ _ _ _ (by
  rintro rfl;exact h.rJ hg rfl)
 refine⟨h.of hK ((h.blk.put (5+k) (aa ag v)).as fun i hi=>?_) (fw h.objs fun g hg=>hne g (.inl hg)) (fw h.nC fun g hg=>hne g (.inr hg)) (fun b hb=>.inl hb) (fun Y hY _=>⟨(h.data Y hY).un,(h.data Y hY).bA,(h.data Y hY).b9⟩) h.num h.up h.low h.sI h.sJ (fun a i ha=>?_) h.pV rfl,hK⟩
 ·by_cases e:i=5+k
  ·subst e
   rw[aY rfl,nA 5 k];show Value.int .i64 v=aa ag (DT (s.dL k j) k);rw[hv];unfold DT Sy.dL;simp only[mU]
  ·rw[aW e]
   match i,e with
   | 0,_|1,_|2,_|3,_|4,_=>rfl
   | a+5,e =>show Value.int .i64 (DT s a)=aa ag (DT (s.dL k j) a);unfold DT Sy.dL;simp only;rw[aW (by omega)]
 ·have ha:(if a=k then j else s.fds a)=aO i:=ha
  split at ha
  ·exact hj i ha
  ·exact h.qo a i ha
end
section
variable {aS:aE}{W X:aw}{B:aE}{s:Sy}{L:ja}
theorem JC{size:aE}(h:W.ownsRow aS e size v n xs)(hg:v.ownBlock=aO g):∃ eI,W.heap[g]?=aO (aM eI e (0,0)):=by
 rcases h.2 with⟨hv,_⟩|⟨g',c,eI,hv,_,hh,_⟩
 ·rw[hv]at hg;cases hg
 ·rw[hv]at hg
  cases hg;exact⟨eI,hh⟩
theorem cW.apart(h:cW aS W B s L)(h1:L.vo.ownBlock=aO g)(h2:L.vd.ownBlock=aO g):False:=by obtain⟨a,ha⟩:=JC h.objs h1;obtain⟨b,hb⟩:=JC h.nC h2;rw[ha]at hb;simp only[dt,rz]at hb;exact aG hb.2.1 (by decide)
theorem cW.acM(h:cW aS W B s L)(hk:cA (fun b=>L.vo.ownBlock=aO b) W X):oI X B (cellW s L)/\X.ownsRow aS 103 3 L.vd s.bJ.length (s.bJ.flatMap yU)/\cA (gV B L) W X:=
 ⟨h.blk.same (hk.block B h.lt (fun e=>h.rJ (.inl e) rfl)),fw h.nC fun g hg=>hk.block g (h.nC.lt g hg).2 (fun e=>h.apart e hg),hk.pw fun b hb=>.inr (.inl hb)⟩
theorem cW.agN(h:cW aS W B s L)(hk:cA (fun b=>L.vd.ownBlock=aO b) W X):oI X B (cellW s L)/\X.ownsRow aS 98 3 L.vo s.bh.length (L.ov.flatMap yV)/\cA (gV B L) W X:=
 ⟨h.blk.same (hk.block B h.lt (fun e=>h.rJ (.inr e) rfl)),fw h.objs fun g hg=>hk.block g (h.objs.lt g hg).2 (fun e=>h.apart hg e),hk.pw fun b hb=>.inr (.inr hb)⟩
theorem tR{s':Sy}{L':ja}(h1:s'.bA=s.bA)(h2:s'.fds=s.fds)(e1:L'.y=L.y)(e2:L'.lo=L.lo)(e3:L'.pl=L.pl)(e4:L'.cl=L.cl)(e5:L'.ps=L.ps)(e6:L'.sc=L.sc)(e7:L'.vo=L.vo)(e8:L'.vd=L.vd):∀ i,i<37->cellW s L i=cellW s' L' i:=fun i _=>by
 match i with
 | 0=>show Value.slice _ _ _=ah _ _ _;rw[e1]
 | 1=>show Value.slice _ _ _=ah _ _ _;rw[e2,e3,e4]
 | 2=>show Value.slice _ _ _=ah _ _ _;rw[e5,e6,h1]
 | 3=>exact e7.symm
 | 4=>exact e8.symm
 | k+5=>show Value.int _ _=.int _ _;unfold DT;rw[h2]
theorem cW.pos(h:cW aS W B s L){j:aE}{o:qI}(ho:s.bJ[j]?=aO o){g c:aE}(hv:L.vd=ah (aO g) s.bJ.length c)(n:aF):cW aS (W.setCell ⟨g,j*3+2,aN⟩ (aa ag n)) B (s.jw j { o with pos:=n }) L/\cA (gV B L) W (W.setCell ⟨g,j*3+2,aN⟩ (aa ag n)):=by
 have hK:cA (fun b=>L.vd.ownBlock=aO b) W (W.setCell ⟨g,j*3+2,aN⟩ (aa ag n)):=cA.set (by rw[hv];rfl) W _ _;obtain⟨h1,h2,h3⟩:=h.agN hK;have hd:=h.nC;rw[hv]at hd;have DV:=(World.ownsRow.stored hd (j*3+2) (aa ag n)).1;rw[<- Ae yU WM s.bJ j (y:={ o with pos:=n }) ho 2 (aa ag n) (by decide) rfl,<- hv]at DV;refine⟨h.of h3 (h1.as (tR rfl rfl rfl rfl rfl rfl rfl rfl rfl rfl)) h2 (by show World.ownsRow _ _ _ _ _ (s.bJ.set j _).length _;rw[fW];exact DV) (fun b hb=>.inl hb) (fun Y hY _=>⟨(h.data Y hY).un,(h.data Y hY).bA,(h.data Y hY).b9⟩) h.num h.up h.low h.sI h.sJ (fun k i hk=>by show i<(s.bJ.set j _).length;rw[fW];exact h.qo k i hk) (fun x hx=>?_) rfl,h3⟩;rcases List.mem_or_eq_of_mem_set hx with hx|rfl
 ·exact h.pV x hx
 ·exact h.pV o (bw ho)
theorem cW.cM(h:cW aS W B s L){f':Fl}{x:Ov}(hk:cA (fun b=>L.vo.ownBlock=aO b) W X)(ho:X.ownsRow aS 98 3 L.vo s.bh.length ((L.ov.set i x).flatMap yV))(h1:x.bm=f'.bm)(h2:x.text=f'.text)(h3:x.k=f'.b9.length)(hl:St (yJ B L) W fun Y=>LK.bI Y x.p f'.b9)(h4:x.k<=x.c)(h5:x.p=aN->x.c=0):cW aS X B (s.dQ i f') { L with ov:=L.ov.set i x }/\cA (gV B L) W X:=by
 obtain⟨g1,g2,g3⟩:=h.acM hk;refine⟨h.of g3 (g1.as (tR rfl rfl rfl rfl rfl rfl rfl rfl rfl rfl)) (by show World.ownsRow _ _ _ _ _ (s.bh.set i _).length _;rw[fW];exact ho) g2 (fun b hb=>.inl hb) (fun Y hY _=>⟨(h.data Y hY).un,(h.data Y hY).bA,fun k f hf=>?_⟩) (by show(L.ov.set i x).length=(s.bh.set i f').length;simp[h.num]) h.up h.low h.sI h.sJ h.qo (fun o ho=>by show o.cM<(s.bh.set i f').length;rw[fW];exact h.pV o ho) rfl,g3⟩;show ∃ z,(L.ov.set i x)[k]?=aO z/\_;rcases qL hf with⟨rfl,rfl,hi⟩|⟨hne,hf⟩
 ·exact⟨x,jt (by rw[h.num];exact hi),h1,h2,h3,hl Y hY,h4,h5⟩
 ·obtain⟨z,hz,hr⟩:=(h.data Y hY).b9 k f hf
  exact⟨z,by rw[mo (fun e=>hne e.symm)];exact hz,hr⟩
theorem cW.Ba(h:cW aS W B s L){x y:Ov}(hx:L.ov[i]?=aO x){c:aE}(hv:L.vo=ah (aO g) s.bh.length c){j:aE}(hj:j<3)(he:yV y=(yV x).set j v):(W.setCell ⟨g,i*3+j,aN⟩ v).ownsRow aS 98 3 L.vo s.bh.length ((L.ov.set i y).flatMap yV)/\cA (fun b=>L.vo.ownBlock=aO b) W (W.setCell ⟨g,i*3+j,aN⟩ v):=by have hd:=h.objs;rw[hv]at hd;have DV:=(World.ownsRow.stored hd (i*3+j) v).1;rw[<- Ae yV WN L.ov i hx j v hj he,<- hv]at DV;exact⟨DV,cA.set (by rw[hv];rfl) W _ _⟩
theorem cW.union(h:cW aS W B s L){y:Lay}{lo:aB Lay}{pl:aC aJ}{cl:aE}{ps:aC aJ}{sc:aE}(hk:cA (·=B) W X)(hb:oI X B (cellW (s.di y.es (lo.map (·.es))) { L with y:=y,lo:=lo,pl:=pl,cl:=cl,ps:=ps,sc:=sc }))(hu:St (yJ B L) X fun Y=>eZ Y y lo pl cl/\bI Y ps (s.di y.es (lo.map (·.es))).bA)(h1:(s.di y.es (lo.map (·.es))).bA.length<=sc)(h2:ps=aN->sc=0):cW aS X B (s.di y.es (lo.map (·.es))) { L with y:=y,lo:=lo,pl:=pl,cl:=cl,ps:=ps,sc:=sc }/\cA (gV B L) W X:=by
 have hK:cA (gV B L) W X:=hk.pw fun b hb=>.inl hb
 exact⟨h.of hK hb (fw h.objs fun g hg=>hk.block g (h.objs.lt g hg).2 (fun e=>h.rJ (.inl hg) e)) (fw h.nC fun g hg=>hk.block g (h.nC.lt g hg).2 (fun e=>h.rJ (.inr hg) e)) (fun b hb=>.inl hb) (fun Y hY hX=>⟨(hu Y hX).1,(hu Y hX).2,(h.data Y hY).b9⟩) h.num rfl rfl h1 h2 h.qo h.pV rfl,hK⟩
end
theorem Dx(y:Lay)(ls:aB Lay)(pl:aC aJ)(cl:aE)(w:aw)(hT:gj w pl ls)(hn:ls.length<=80)(iR:pl=aN->cl=0):ay aP 23 #[ar #[ah y.ad y.es.length y.cap,ah pl ls.length cl]] w fun e w'=>(∃ v,e=aK v/\gC w' w v (y::ls))/\au w w w':=by
 have HT:ax (gj w pl ls):=hT;have BS:=gC.one (w.alloc (aM #[ah y.ad y.es.length y.cap,ah pl ls.length cl] 26)) y (w.heap.size+1) (by simp);have HB:ax (au w w ((w.alloc (aM #[ah y.ad y.es.length y.cap,ah pl ls.length cl] 26)).alloc (aM #[ah y.ad y.es.length y.cap] 23))):=((aR _ _).alloc (aV _) _).alloc (by simp) _;obtain⟨n,eK⟩:=ee ls.length
 have HN:ax (n=ls.length):=eK;rw[<- eK]at hn BS HB ⊢;obtain⟨k,hk⟩:=ee y.es.length
 rw[<- hk]at BS HB ⊢;have HO:ax _:=BS;clear hT eK hk BS;go_enter Tryz.func23,Tryz.ntmps23;go_wp2_with (at_builtin;refine AR _ rfl _ _ rfl (w.heap.size+1) _ [y] rfl HO.out (by simp) (by simp) pl n cl ls rfl HN.out (HT.aaP HB.out) iR hn ?_;intro v5 w5 BN fA;have HR:ax (gC w5 w v5 (y::ls)):=gC.mono BN (by omega);have tE:ax (au w w w5):=HB.trans (fA.mono (by omega));clear BN fA);go_ret;exact⟨⟨_,rfl,HR.out⟩,tE.out⟩
theorem Mj(a:aC aJ)(k c:aE)(n:aE)(pl:aC aJ)(cl:aE)(w:aw)(h:4<n):ay aP 12 #[ar #[ah a k c,ah pl n cl]] w fun r w'=>r=aK (ar #[aa ag 5,aa ag 0])/\au w w w':=by
 have h4:(4:aF)<(n:aF):=by omega
 go_enter Tryz.func12,Tryz.ntmps12;go_wp2;refine ba (v:=ar #[aa ag 5,aa ag 0]) (by simp[results,Tryz.results12,go_sem]) rfl ?_;exact⟨rfl,((aR _ _).alloc (aV _) _).alloc (by simp) _⟩
abbrev XW(w:aw)(all:aB Lay):Prop:=∀ x∈all,∀ W,au w w W->ay aP 24 #[ah x.ad x.es.length x.cap,aq aI] W fun r w'=>r=aK (ar #[aa ag (cV aI x.es).1,aa ag ((cV aI x.es).2:aE)])/\au W.heap.size W w'
abbrev XV(w:aw)(all:aB Lay):Prop:=∀ W p c,au w w W->gj W p all->ay aP 25 #[ah p all.length c] W (iB (jO (all.map (·.es))).1 (jO (all.map (·.es))).2 W)
theorem PW(y:Lay)(ls:aB Lay)(pl:aC aJ)(cl:aE)(w:aw)(hT:gj w pl ls)(iM:XW w (y::ls))(rU:XV w (y::ls))(iR:pl=aN->cl=0)(h4:ls.length<=4):ay aP 12 #[ar #[ah y.ad y.es.length y.cap,ah pl ls.length cl]] w fun r w'=>r=aK (ar #[aa ag (bH ((y::ls).map (·.es))).1,aa ag ((bH ((y::ls).map (·.es))).2:aE)])/\au w w w':=by
 have Ek:=fun W (hB:au w.heap.size w W)=>Dx y ls pl cl W (hT.bB hB) (by omega) iR
 obtain⟨n,eK⟩:=ee ls.length
 have HN:ax (n=ls.length):=eK;have h4z:¬ (4:aF)<(n:aF):=by omega
 obtain⟨k0,A1⟩:=ee y.es.length
 rw[<- eK,<- A1]at Ek ⊢;have HLY:ax (∀ W,au w w W->_):=Ek;have nN:ax (au (w.heap.size+2) ((w.alloc (aM #[ah y.ad k0 y.cap,ah pl n cl] 26)).alloc (aM #[aa ag 0,aa ag 0] 56)) ((w.alloc (aM #[ah y.ad k0 y.cap,ah pl n cl] 26)).alloc (aM #[aa ag 0,aa ag 0] 56))):=aR _ _;obtain⟨all,hall⟩:∃ all,all=y::ls:=⟨_,rfl⟩
 rw[<- hall]at iM rU ⊢;have HWR:ax (XW w all):=iM;have HMG:ax (XV w all):=rU;have HAL:ax (all=y::ls):=hall;obtain⟨N,E4⟩:=o7 all.length
 have xS:N<=5:=by rw[<- E4,hall,cj];omega
 have Ca:ax (all.length=N):=E4;obtain⟨er,ni⟩:=ee ((bH (all.map (·.es))).1)
 obtain⟨ea,Yw⟩:=ee (((bH (all.map (·.es))).2:aE):aF)
 rw[<- ni,<- Yw];have qH:ax (er=(bH (all.map (·.es))).1/\ea=((bH (all.map (·.es))).2:aE)):=⟨ni,Yw⟩
 have HWU:ax (bH (all.map (·.es))=if(fX 0 (all.map (·.es))).1=0 then((bG (all.map (·.es))).1,0)else fX 0 (all.map (·.es))):=by show _=_;unfold bH;rw[aW (by rw[bQ,E4];omega)]
 clear hT iM rU eK A1 hall E4 ni Yw;go_enter Tryz.func12,Tryz.ntmps12;go_wp2_with (go_at_call 23;refine(Ek _ (lG nN.out)).mono ?_;clear Ek;rintro e w3 ⟨⟨v3,rfl,yC⟩,pL⟩;have mm:ax (au (w.heap.size+2) _ w3):=AL nN.out pL;rw[<- HAL.out]at yC;obtain⟨p3,c3,rfl,pK⟩:=yC.form;rw[Ca.out];have Hm:ax (gj w3 p3 all):=pK;clear yC pL nN pK);go_loopg [16] N (fun gg s19 wr=>∃ k:aE,k<=N/\N-k<=gg/\s19=aa ag k/\ax (au w3 w3 wr)/\ax (fX k ((all.map (·.es)).drop k)=fX 0 (all.map (·.es))))
 case atStart=>exact⟨0,bF _,by omega,rfl,aR _ _,rfl⟩
 case round=>
  obtain⟨k,hk,oP,rfl,BW,HE⟩:=hrel;have kT:ax (au (w.heap.size+2) ((w.alloc (aM #[ah y.ad k0 y.cap,ah pl n cl] 26)).alloc (aM #[aa ag 0,aa ag 0] 56)) wr):=AL mm.out BW.out;have Qz:=kT.size;simp at Qz;by_cases gm:k<N
  ·have eN:(k:aF)<(N:aF):=by omega
   obtain⟨x,hx⟩:∃ x,all[k]?=aO x:=⟨_,aU (by have:=Ca.out;omega)⟩
   have HX:ax ((all.map (·.es))[k]?=aO x.es):=by show _=_;rw[cD,hx];rfl
   have iM:=fun W (hB:au wr.heap.size wr W)=>HWR.out x (bw hx) W (Below.bK (lG kT.out) hB)
   rcases Hm.out with h0|⟨b,off,rfl,hb,hc⟩
   ·rw[h0]at hx;simp at hx
   have c0:wr.cell? ⟨b,off+k,aN⟩=aO (ah x.ad x.es.length x.cap):=(BW.cell (p:=⟨b,off+k,aN⟩) hb).trans (hc k x hx);have HS:=yN HX.out;have uY:ax (fX k ((all.map (·.es)).drop k)=if(cV aI x.es).1=0 then fX (k+1) ((all.map (·.es)).drop (k+1))else((cV aI x.es).1,k)):=HS;clear HS hc hx HX;generalize x.es.length=xl at c0 iM;generalize (cV aI x.es).1=f1 at iM uY;generalize ((cV aI x.es).2:aF)=f2 at iM;have Gc:=wG;by_cases hf:f1=0
   ·have XP:ax (fX (k+1) ((all.map (·.es)).drop (k+1))=fX 0 (all.map (·.es))):=by show _=_;rw[<- HE.out,uY.out,aY hf]
    subst hf;go_wp2_with (go_at_call 24;refine(iM _ (by repeat (first|exact aR _ _|refine Below.alloc ?_ (by simp) _))).mono ?_;clear iM;rintro rr w5 ⟨rfl,CX⟩);go_roundg (N-(k+1))
    case measure=>omega
    case rel=>exact⟨k+1,by omega,by omega,by go_num,(Below.bK BW.out CX).alloc (Below.bK BW.out CX).size _,XP.out⟩
   ·have HZ:ax (er=f1/\ea=(k:aF)):=by
     have h1:fX 0 (all.map (·.es))=(f1,k):=by rw[<- HE.out,uY.out,aW hf]
     have h2:bH (all.map (·.es))=(f1,k):=by rw[HWU.out,h1,aW hf]
     obtain⟨h3,h4⟩:=qH.out;rw[h2]at h3 h4;exact⟨h3,h4⟩
    go_wp2_with (go_at_call 24;refine(iM _ (by repeat (first|exact aR _ _|refine Below.alloc ?_ (by simp) _))).mono ?_;clear iM;rintro rr w5 ⟨rfl,CX⟩;have tE:ax (au (w.heap.size+2) ((w.alloc (aM #[ah y.ad k0 y.cap,ah pl n cl] 26)).alloc (aM #[aa ag 0,aa ag 0] 56)) w5):=AL kT.out CX;have JX:ax (au (w.heap.size+2) ((w.alloc (aM #[ah y.ad k0 y.cap,ah pl n cl] 26)).alloc (aM #[aa ag 0,aa ag 0] 56)) (w5.alloc (aM #[aa ag f1,aa ag f2] 56))):=AL tE.out ((Grown.refl w5).alloc _).below;obtain⟨⟨r0,r1⟩,⟨g0,g1⟩⟩:=xx tE.out;obtain⟨⟨R0,R1⟩,⟨G0,G1⟩⟩:=xx JX.out;clear CX);refine ba (v:=ar #[aa ag f1,aa ag k]) (by simp[results,Tryz.results12,go_sem,R0,R1]) rfl ?_;obtain⟨h1,h2⟩:=HZ.out;rw[h1,h2];exact⟨rfl,ny (JX.out) _ _⟩
  ·obtain rfl:k=N:=by omega
   have eN:¬ (k:aF)<(k:aF):=by omega
   have h0:fX 0 (all.map (·.es))=(0,0):=by rw[<- HE.out,cy (by rw[bQ,Ca.out];exact aV _)];rfl
   have Xd:jO (all.map (·.es))=bG (all.map (·.es)):=by rw[jO,aW (by rw[bQ,Ca.out];omega)]
   have HZ:ax (er=(bG (all.map (·.es))).1/\ea=0):=by
    have h2:bH (all.map (·.es))=((bG (all.map (·.es))).1,0):=by rw[HWU.out,h0,aY rfl]
    obtain⟨h3,h4⟩:=qH.out;rw[h2]at h3 h4;exact⟨h3,h4⟩
   obtain⟨z1,z2⟩:=HZ.out;have O9:=fun W p c (hB:au wr.heap.size wr W) (hL:gj W p all)=>HMG.out W p c (Below.bK (lG kT.out) hB) hL
   rw[Xd,<- z1,Ca.out]at O9;have VG:=fun W (hB:au wr.heap.size wr W)=>HLY.out W (Below.bK (lG kT.out) hB)
   subst z2;clear h0 Xd z1;generalize (bG (all.map (·.es))).2=ml at O9;obtain⟨⟨u0,u1⟩,_⟩:=FU kT.out;obtain⟨⟨q0,q1⟩,⟨q2,q3⟩⟩:=xx kT.out;by_cases he:er=0
   ·subst he
    go_wp2_with (first
     | (go_at_call 23;refine(VG _ (aR _ _)).mono ?_;clear VG;rintro e w8 ⟨⟨v8,rfl,uF⟩,xT⟩;have HN8:ax (au wr wr w8):=xT;have QH:ax (au (w.heap.size+2) ((w.alloc (aM #[ah y.ad k0 y.cap,ah pl n cl] 26)).alloc (aM #[aa ag 0,aa ag 0] 56)) w8):=AL kT.out xT;rw[<- HAL.out]at uF;obtain⟨p8,c8,rfl,BM⟩:=uF.form;rw[Ca.out];have QK:ax (gj w8 p8 all):=BM;clear uF xT BM)
     | (go_at_call 25;refine(O9 _ p8 c8 HN8.out QK.out).mono ?_;clear O9;rintro rr w9 ⟨p9,c9,rfl,Um,RX,Pc,WW⟩;have xO:ax (au (w.heap.size+2) ((w.alloc (aM #[ah y.ad k0 y.cap,ah pl n cl] 26)).alloc (aM #[aa ag 0,aa ag 0] 56)) w9):=AL QH.out WW;obtain⟨⟨r0,r1⟩,⟨g0,g1⟩⟩:=xx xO.out;clear Um WW))
    refine ba (v:=ar #[aa ag 0,aa ag 0]) (by simp[results,Tryz.results12,go_sem,r0,r1]) rfl ?_;exact⟨rfl,ny (xO.out) _ _⟩
   ·go_wp2_with (first
     | (go_at_call 23;refine(VG _ (aR _ _)).mono ?_;clear VG;rintro e w8 ⟨⟨v8,rfl,uF⟩,xT⟩;have HN8:ax (au wr wr w8):=xT;have QH:ax (au (w.heap.size+2) ((w.alloc (aM #[ah y.ad k0 y.cap,ah pl n cl] 26)).alloc (aM #[aa ag 0,aa ag 0] 56)) w8):=AL kT.out xT;rw[<- HAL.out]at uF;obtain⟨p8,c8,rfl,BM⟩:=uF.form;rw[Ca.out];have QK:ax (gj w8 p8 all):=BM;clear uF xT BM)
     | (go_at_call 25;refine(O9 _ p8 c8 HN8.out QK.out).mono ?_;clear O9;rintro rr w9 ⟨p9,c9,rfl,Um,RX,Pc,WW⟩;have xO:ax (au (w.heap.size+2) ((w.alloc (aM #[ah y.ad k0 y.cap,ah pl n cl] 26)).alloc (aM #[aa ag 0,aa ag 0] 56)) w9):=AL QH.out WW;obtain⟨⟨r0,r1⟩,⟨g0,g1⟩⟩:=xx xO.out;clear Um WW))
    refine ba (v:=ar #[aa ag er,aa ag 0]) (by simp[results,Tryz.results12,go_sem,r0,r1]) rfl ?_;exact⟨rfl,ny (xO.out) _ _⟩
abbrev aeR(w:aw)(u:az)(er ea:aF):Prop:=∀ W,au w w W->ay aP 12 #[u] W fun r w'=>r=aK (ar #[aa ag er,aa ag ea])/\au W.heap.size W w'
theorem Fm(y:Lay)(ls:aB Lay)(pl:aC aJ)(cl:aE)(w:aw)(hT:gj w pl ls)(iM:XW w (y::ls))(rU:XV w (y::ls))(iR:pl=aN->cl=0):aeR w (ar #[ah y.ad y.es.length y.cap,ah pl ls.length cl]) (bH ((y::ls).map (·.es))).1 ((bH ((y::ls).map (·.es))).2:aE):=fun W hB=>by
 by_cases h4:ls.length<=4
 ·exact PW y ls pl cl W (hT.bB hB) (fun x hx X hX=>iM x hx X (Below.bK hB hX)) (fun X p c hX hL=>rU X p c (Below.bK hB hX) hL) iR h4
 ·have h1:bH ((y::ls).map (·.es))=(5,0):=by
   unfold bH;rw[aY (by rw[bQ,cj];omega)]
  rw[h1];exact Mj _ _ _ _ _ _ _ (by omega)
theorem GD(a:aC aJ)(k c:aE)(pl:aC aJ)(n cl:aE)(p:aC aJ)(l cp:aE)(w:aw)(h:80<l):ay aP 60 #[ar #[ah a k c,ah pl n cl],ah p l cp] w fun r w'=>r=aK (aL #[ar #[ah aN 0 0,ah aN 0 0],aa ag 5])/\au w w w':=by
 have h8:(80:aF)<(l:aF):=by omega
 go_enter Tryz.func60,Tryz.ntmps60;go_wp2;refine ba (v:=aL #[ar #[ah aN 0 0,ah aN 0 0],aa ag 5]) (by simp[results,Tryz.results60,go_sem]) rfl ?_;exact⟨rfl,((aR _ _).alloc (aV _) _).alloc (by simp) _⟩
theorem Jt(a:aC aJ)(k c:aE)(pl:aC aJ)(n cl:aE)(p:aC aJ)(l cp:aE)(w:aw)(h:l<=80):ay aP 60 #[ar #[ah a k c,ah pl n cl],ah p l cp] w fun r w'=>r=aK (aL #[ar #[ah p l cp,ah pl n cl],aa ag 0])/\au w w w':=by
 have h8:¬ (80:aF)<(l:aF):=by omega
 go_enter Tryz.func60,Tryz.ntmps60;go_wp2;refine ba (v:=aL #[ar #[ah p l cp,ah pl n cl],aa ag 0]) (by simp[results,Tryz.results60,go_sem]) rfl ?_;exact⟨rfl,((aR _ _).alloc (aV _) _).alloc (by simp) _⟩
theorem oZ(s d:aA)(w:aw)(hs:s.size<=maxLen)(hd:d.size<=maxLen):ay aP 36 #[ai s,ai d] w fun e w'=>e=aK (aq (anG s d))/\w'=w:=by
 unfold maxLen at hs hd;by_cases h:d.data.toList=[]
 ·have h1:=lX h
  have HJ:Hid (anG s d.data.toList = !s.toList.isEmpty):=by show _=_;rw[anG,h,bq];rfl
  clear h;go_enter Tryz.func36,Tryz.ntmps36;go_wp2;go_ret;exact⟨df HJ.symm,rfl⟩
 ·have h1:=jA h
  by_cases h2:d.size<s.size
  ·have HU:Hid (anG s d.data.toList=(decide (s[d.size]=47) && decide (s.data.toList.take d.size=d.data.toList))):=DI s d h h2
   have hT:((s.extract 0 d.size).toList == d.toList)=decide (s.data.toList.take d.size=d.data.toList):=NN s d (by omega);have g2:(d.size:aF)<(s.size:aF):=by omega
   clear h;by_cases h3:s.data.toList.take d.size=d.data.toList
   ·have H3:Hid (s.data.toList.take d.size=d.data.toList):=h3
    have h4:((s.extract 0 d.size).toList == d.toList)=aI:=by rw[hT];simpa using h3
    have HE:Hid (((s[d.size].toNat:aF) == 47)=decide (s[d.size]=47)):=by
     show _=_;by_cases e:s[d.size]=47
     ·rw[e];rfl
     ·exact(show _=aH from yR (y:=47) e).trans (by simp[e])
    clear h3 hT;go_enter Tryz.func36,Tryz.ntmps36;go_wp2;go_ret;exact⟨df (by rw[HU.out,HE.out];simp[H3.out]),rfl⟩
   ·have H3:Hid (¬ s.data.toList.take d.size=d.data.toList):=h3
    have h4:((s.extract 0 d.size).toList == d.toList)=aH:=by rw[hT];simpa using h3
    clear h3 hT;go_enter Tryz.func36,Tryz.ntmps36;go_wp2;go_ret;exact⟨df (by rw[HU.out];simp[H3.out]),rfl⟩
  ·have HU:Hid (anG s d.data.toList=aH):=BA s d h (by omega)
   have g2:¬ (d.size:aF)<(s.size:aF):=by omega
   clear h;go_enter Tryz.func36,Tryz.ntmps36;go_wp2;go_ret;exact⟨df (by rw[HU.out]),rfl⟩
/-! Named -/
theorem vA(w:aw)(e:TypeId)(s:aA):au w w (Lib.bytesWorld w e s):=
 ⟨rfl,rfl,rfl,by rw[Lib.bytesWorld_size];omega,fun k hk=>Lib.bytesWorld_at_old w e s k hk⟩
theorem ND(c:aD):okB c=aI↔(97<=(c.toNat:aF)/\(c.toNat:aF)<=122)\/(48<=(c.toNat:aF)/\(c.toNat:aF)<=57):=by simp[okB,adm];omega
theorem RF(s:aA)(k:aE)(h:k<s.size):s.data.toList.getD k 0=s[k]:=by rw[xh,aU (by rw[ix];exact h),mi];rfl
theorem qR(s:aA)(w:aw)(hs:s.size<=maxLen):ay aP 105 #[ai s] w fun e w'=>e=aK (aq (named s))/\au w w w':=by
 unfold maxLen at hs;have hcv:=Lib.run_convert_string_bytes (P:=aP) w 9 120 5 s (u:=.string) Tryz.underlying9 Tryz.underlying120 Tryz.underlying5;have hB:=vA w 5 s;have hcell:=fun j hj=>Lib.bytesWorld_cell w 5 s j hj
 generalize Lib.bytesWorld w 5 s=W1 at *;generalize grownCap w s.size 0 5=cap at *;have HC:Hid (∀ j,j<s.size->W1.cell? ⟨w,j,aN⟩=aO (.int .u8 (s.data.toList.getD j 0).toNat)):=hcell;clear hcell;go_enter Tryz.func105,Tryz.ntmps105;go_wp2;clear hcv;go_loop [8] (fun i=>∃ k:aE,k<=s.size/\i=aa ag k/\Hid (∀ c∈s.data.toList.take k,okB c=aI)) (fun i=>s.size-(intOf i).toNat)
 case atStart=>exact⟨0,bF _,rfl,by intro c hc;simp at hc⟩
 case round=>
  obtain⟨k,hk,rfl,HA⟩:=hrel;by_cases gm:k<s.size
  ·have vL:(k:aF)<(s.size:aF):=by omega
   have hc:W1.cell? ⟨w,k,aN⟩=aO (.int .u8 (s[k].toNat:aF)):=by rw[<- RF s k gm];exact HC.out k gm
   have hb:=(s[k]).toNat_lt;cases ho:okB s[k]with
   | true=>
    have HN:Hid (∀ c∈s.data.toList.take (k+1),okB c=aI):=Hu s k gm HA.out ho;have Cp:=(ND _).1 ho;clear HA ho;rcases Cp with⟨g1,g2⟩|⟨g1,g2⟩
    ·go_wp2
     exact⟨⟨k+1,by omega,by go_num,HN⟩,by simp[intOf];omega⟩
    ·have g3:¬ 97<=(s[k].toNat:aF):=by omega
     go_wp2;exact⟨⟨k+1,by omega,by go_num,HN⟩,by simp[intOf];omega⟩
   | false=>
    have HN:Hid (named s.data.toList=aH):=zr s k gm ho;have Cp:¬ ((97<=(s[k].toNat:aF)/\(s[k].toNat:aF)<=122)\/(48<=(s[k].toNat:aF)/\(s[k].toNat:aF)<=57)):=fun e=>by rw[(ND _).2 e]at ho;cases ho
    clear HA ho;by_cases g1:97<=(s[k].toNat:aF)
    ·have g2:¬ (s[k].toNat:aF)<=122:=by omega
     have g3:¬ (s[k].toNat:aF)<=57:=by omega
     clear Cp;go_wp2;go_ret;exact⟨df HN.symm,hB⟩
    ·by_cases g2:48<=(s[k].toNat:aF)
     ·have g3:¬ (s[k].toNat:aF)<=57:=by omega
      clear Cp;go_wp2;go_ret;exact⟨df HN.symm,hB⟩
     ·clear Cp
      go_wp2;go_ret;exact⟨df HN.symm,hB⟩
  ·have vL:¬ (k:aF)<(s.size:aF):=by omega
   have HN:Hid (named s.data.toList=(decide (1<=(s.size:aF)) && decide ((s.size:aF)<=12))):=by
    show _=_;rw[dN,wR,fh,ew,ew,ix];constructor
    ·rintro⟨a,b,_⟩
     refine⟨?_,by omega⟩;have:s.data.toList.length≠0:=fun e=>a (dr.1 e)
     rw[ix]at this;omega
    ·rintro⟨a,b⟩
     refine⟨fun e=>?_,by omega,fun c hc=>HA.out c (by rw[cz (by rw[ix];omega)];exact hc)⟩;have:s.size=0:=by rw[<- ix,e];rfl
     omega
   clear HA;by_cases g1:1<=(s.size:aF)
   ·have HG:Hid (decide (1<=(s.size:aF))=aI):=by show _=_;simpa using g1
    go_wp2;go_ret;exact⟨df (by rw[HN.out,HG.out];simp),hB⟩
   ·have HG:Hid (decide (1<=(s.size:aF))=aH):=by show _=_;simpa using g1
    go_wp2;go_ret;exact⟨df (by rw[HN.out,HG.out];simp),hB⟩
/-! Cut -/
theorem Dy(s:aA)(w:aw)(hs:s.size<4611686018427387904):ay aP 51 #[ai s] w fun e w'=>(∃ d n:aA,e=aK (aL #[ai d,ai n])/\d.data.toList=(kd s).1/\n.data.toList=(kd s).2)/\∃ n,w'=w.drewN n:=by
 go_enter Tryz.func51,Tryz.ntmps51;go_wp2;go_loop [4] (fun i=>∃ k:aE,k<=s.size/\i=aa ag ((k:aF)-1)/\Hid (∀ c∈s.data.toList.drop k,c≠47)) (fun i=>(intOf i+1).toNat)
 case atStart=>exact⟨s.size,aV _,rfl,by intro c hc;rw[cy (by rw[ix];omega)]at hc;cases hc⟩
 case round=>
  obtain⟨k,hk,rfl,HA⟩:=hrel;cases k with
  | zero =>have HC:Hid (kd s.data.toList=([],s.data.toList)):=q9 _ (by simpa using HA.out);clear HA;go_wp2;go_ret2;exact⟨⟨_,_,rfl,by rw[HC.out],by rw[HC.out]⟩,0,rfl⟩
  | succ j=>
   have hj:j<s.size:=by omega
   have e:((j+1:aE):aF)-1=(j:aF):=by omega
   rw[e];clear e;have hg:=nE s j hj;by_cases h:s[j]=47
   ·have h4:((s[j].toNat:aF) == 47)=aI:=by rw[h];rfl
    have HC:Hid (kd s.data.toList=(s.data.toList.take j,s.data.toList.drop (j+1))):=by
     show _=_
     conv=>lhs;rw[<- iK j s.data.toList,hg,h]
     exact iC _ _ HA.out
    clear HA h hg;go_wp2;go_quiet (fail);go_wp2;go_ret2;exact⟨⟨_,_,rfl,by rw[HC.out,EG],by rw[HC.out,yz]⟩,_,rfl⟩
   ·have h4:((s[j].toNat:aF) == 47)=aH:=yR (y:=47) h
    have HN:Hid (∀ c∈s.data.toList.drop j,c≠47):=by
     intro c hc;rw[hg]at hc;rcases cX.1 hc with rfl|hc
     ·exact h
     ·exact HA.out c hc
    clear HA h hg;go_wp2;exact⟨⟨j,by omega,by go_num,HN⟩,by simp[intOf]⟩
def CA(w:aw)(l:aB (aB aD))(e:Ending)(w':aw):Prop:=
 (∃ v bs,e=aK v/\jE w' w v bs/\bs.map (·.data.toList)=l)/\au w w w'
theorem Gx(s:aA)(eI:aB aD)(k:aE)(h:k<s.size)(hc:s[k]=47):pa eI (s.data.toList.drop k)=eI::pa [] (s.data.toList.drop (k+1)):=by rw[nE s k h,pa,aY hc]
theorem Zi(s:aA)(eI:aB aD)(k:aE)(h:k<s.size)(hc:¬ s[k]=47):pa eI (s.data.toList.drop k)=pa (eI++[s[k]]) (s.data.toList.drop (k+1)):=by rw[nE s k h,pa,aW hc]
theorem FY(s:aA)(a k:aE)(ha:a<=k)(h:k<s.size):(s.extract a (k+1)).data.toList=(s.extract a k).data.toList++[s[k]]:=by rw[Ug,Ug,show k+1-a=(k-a)+1 by omega,jv,fN,show a+(k-a)=k by omega,aU (by rw[ix];exact h),mi];rfl
theorem extract_same(s:aA)(k:aE):(s.extract k k).data.toList=[]:=by rw[Ug];simp
theorem sb{w wr w1:aw}{o:Obj}{B:aE}(hB:au B w wr)(hb:B<=wr)(hS:wr.ownsRow B e 1 v n xs)(hg:(wr.alloc o).grownBy w1 v.ownBlock):au B w w1:=
 (hB.alloc hb _).grown hg (by simp;omega) (fun j hj=>(hS.lt j hj).1)
theorem qT(s:aA)(w:aw)(hs:s.size<=4294967296):ay aP 98 #[ai s] w (CA w (parts s)):=by
 obtain⟨i0,hi,ou,mL,mh⟩:=E7;go_enter Tryz.func98,Tryz.ntmps98;go_wp2;go_loopw [3,4,8] (fun v at_ i wr=>∃ (k a:aE) (bs:aB aA),k<=s.size/\a<=k/\i=aa ag k/\at_=aa ag a/\bs.length<=k/\jE wr w v bs/\au w w wr /\ Hid (bs.map (·.data.toList)++pa (s.extract a k).data.toList (s.data.toList.drop k)=parts s))
  (fun _ _ i _=>s.size-(intOf i).toNat)
 case atStart=>exact⟨0,0,[],bF _,aV _,rfl,rfl,aV _,jE.nil _ _,aR _ _,by show _=_;rw[extract_same];simp[parts]⟩
 case round=>
  obtain⟨k,a,bs,hk,hak,rfl,rfl,xV,hS,hB,HI⟩:=hrel;have Ha:wr.ownsRow w 9 1 u3 bs.length (bs.map Value.string):=hS;by_cases gm:k<s.size
  ·have vL:(k:aF)<(s.size:aF):=by omega
   have akp:(a:aF)<=(k:aF):=by omega
   by_cases hc:s[k]=47
   ·have h4:((s[k].toNat:aF) == 47)=aI:=by rw[hc];rfl
    have HN:Hid ((bs++[s.extract a k]).map (·.data.toList)++pa (s.extract (k+1) (k+1)).data.toList (s.data.toList.drop (k+1))=parts s):=by show _=_;rw[<- HI.out,Gx s _ k gm hc,extract_same];simp
    clear HI hc hS;go_wp2_with (at_builtin;refine dP _ rfl _ _ 36 rfl w 9 i0 (ai ByteArray.empty) 1 16 Tryz.underlying36 hi ou mL mh rfl (by decide) _ _ _ rfl (Ha.alloc _) ⟨wr,0,aN⟩ 1 1 [ai (s.extract a k)] rfl rfl ?c1 ?c2 ?c3 ?c4 ?c5 ?_)
    case c1=>exact og _ _ _
    case c2=>intro u hu;simp at hu;subst hu;rfl
    case c3=>unfold maxLen;omega
    case c4=>omega
    case c5=>have:=hB.size;simp;omega
    ·intro v' w1 gG gN _
     go_wp2;have fg:=sb hB hB.size Ha gN;exact⟨⟨k+1,k+1,bs++[s.extract a k],by omega,by omega,by go_num,by go_num,by simp;omega,by simpa[jE]using gG,fg,HN⟩,by simp[intOf];omega⟩
   ·have h4:((s[k].toNat:aF) == 47)=aH:=yR (y:=47) hc
    have HN:Hid (bs.map (·.data.toList)++pa (s.extract a (k+1)).data.toList (s.data.toList.drop (k+1))=parts s):=by show _=_;rw[<- HI.out,Zi s _ k gm hc,FY s a k hak gm]
    clear HI hc;go_wp2;exact⟨⟨k+1,a,bs,by omega,by omega,by go_num,rfl,by omega,hS,hB,HN⟩,by simp[intOf];omega⟩
  ·have vL:¬ (k:aF)<(s.size:aF):=by omega
   obtain rfl:k=s.size:=by omega
   have HN:Hid ((bs++[s.extract a s.size]).map (·.data.toList)=parts s):=by show _=_;rw[<- HI.out,cy (by rw[ix];omega),pa];simp
   clear HI hS;go_wp2_with (at_builtin;refine dP _ rfl _ _ 36 rfl w 9 i0 (ai ByteArray.empty) 1 16 Tryz.underlying36 hi ou mL mh rfl (by decide) _ _ _ rfl (Ha.alloc _) ⟨wr,0,aN⟩ 1 1 [ai (s.extract a s.size)] rfl rfl ?c1 ?c2 ?c3 ?c4 ?c5 ?_);try (case c1=>exact og _ _ _)
   case c2=>first|rfl|(intro u hu;simp at hu;subst hu;rfl)
   case c3=>unfold maxLen;omega
   case c4=>omega
   case c5=>have:=hB.size;simp;omega
   ·intro v' w1 gG gN _
    go_wp2;go_ret;have fg:=sb hB hB.size Ha gN;exact⟨⟨_,bs++[s.extract a s.size],rfl,by simpa[jE]using gG,HN.out⟩,fg⟩
end Go.Proofs.YtjnkfelecopbjaaGreatDoor
namespace Go.Proofs.YtjnkfelecopbjaaGreatDoor.PM
open Go.RowKit
variable{X Y:aB (aB aD)}{k:aE}
theorem N9(x:aB aD):Op.bytesLess x x=aH:=by
 induction x with
 | nil=>rfl
 | cons c x ih=>simp[Op.bytesLess,ih]
def kR:aB (aB aD)->aB (aB aD)->Bool
 | [],[]=>aH
 | [],_::_=>aI
 | _::_,[]=>aH
 | p::x,q::y=>if p=q then kR x y else Op.bytesLess p q
def aaN(A:aB aD):Prop:=A=[]\/∃ r,A=47::r
theorem zE{c:aD}(h:c≠47):rk c=2+(c.toNat:aF):=by rw[rk,aW h]
theorem pH:∀ (x y A B:aB aD),(∀ c∈x,c≠47)->(∀ c∈y,c≠47)->aaN A->aaN B->x≠y->decide (cmp (x++A) (y++B)<0)=Op.bytesLess x y
 | [],[],_,_,_,_,_,_,h=>aG rfl h
 | [],d::y,A,B,_,hy,hA,_,_=>by
  have hd:=hy d (by simp);have:=d.toNat_lt;rcases hA with rfl|⟨r,rfl⟩
  ·have:=ux d
   simp[Op.bytesLess,cmp];omega
  ·have DV:¬ (47:aD)=d:=fun e=>hd e.symm
   simp only[fo,fF,cmp,aW DV,zE hd,Op.bytesLess,ew];simp only[rk,mU];omega
 | c::x,[],A,B,hx,_,_,hB,_=>by
  have hc:=hx c (by simp);have:=c.toNat_lt;rcases hB with rfl|⟨r,rfl⟩
  ·have:=ux c
   simp[Op.bytesLess,cmp];omega
  ·simp only[fo,fF,cmp,aW hc,zE hc,Op.bytesLess,ra]
   simp only[rk,mU];omega
 | c::x,d::y,A,B,hx,hy,hA,hB,hne=>by
  by_cases e:c=d
  ·subst e
   have ih:=pH x y A B (fun k hk=>hx k (by simp[hk])) (fun k hk=>hy k (by simp[hk])) hA hB (fun e=>hne (by rw[e]));simp only[fF,cmp,mU,Op.bytesLess];rw[ih];simp
  ·have hc:=hx c (by simp)
   have hd:=hy d (by simp);simp only[fF,cmp,aW e,Op.bytesLess,zE hc,zE hd];rw[dN];simp only[ew,gZ,fh,Vc,e,false_and,or_false,UInt8.lt_iff_toNat_lt];omega
theorem Ij:∀ (x A B:aB aD),cmp (x++A) (x++B)=cmp A B
 | [],_,_=>rfl
 | c::x,A,B=>by simp only[fF,cmp,mU];exact Ij x A B
theorem I7(a b:aB aD):kR (parts a) (parts b)=decide (cmp a b<0):=by
 have key:∀ (n:aE) (a b:aB aD),a.length<=n->kR (parts a) (parts b)=decide (cmp a b<0):=by
  intro n;induction n with
  | zero=>
   intro a b ha;obtain rfl:a=[]:=dr.1 (by omega);rw[jH [] (by simp)];rcases mE b with hf|⟨y,b',rfl,hy⟩
   ·rw[jH b hf,kR]
    split
    ·rename_i e;rw[<- e];rfl
    ·rename_i e
     have:=pH [] b [] [] (by simp) hf (.inl rfl) (.inl rfl) e;simpa using this.symm
   ·rw[jR y b' hy,kR]
    split
    ·rename_i e
     rw[<- e];cases hp:parts b' with
     | nil=>exact aG hp (Jk b' [])
     | cons q r=>simp[kR,cmp,rk]
    ·rename_i e
     have:=pH [] y [] (47::b') (by simp) hy (.inl rfl) (.inr ⟨_,rfl⟩) e;simpa using this.symm
  | succ n ih=>
   intro a b ha;rcases mE a with hf|⟨x,a',rfl,hx⟩
   ·rw[jH a hf]
    rcases mE b with hg|⟨y,b',rfl,hy⟩
    ·rw[jH b hg,kR]
     split
     ·rename_i e;rw[<- e,(mG a a).2 rfl];rfl
     ·rename_i e
      have:=pH a b [] [] hf hg (.inl rfl) (.inl rfl) e;simpa using this.symm
    ·rw[jR y b' hy,kR]
     split
     ·rename_i e
      have:=Ab a b';subst e;cases hp:parts b' with
      | nil=>exact aG hp (Jk b' [])
      | cons q r=>simp[kR,this]
     ·rename_i e
      have:=pH a y [] (47::b') hf hy (.inl rfl) (.inr ⟨_,rfl⟩) e;simpa using this.symm
   ·rw[jR x a' hx]
    rcases mE b with hg|⟨y,b',rfl,hy⟩
    ·rw[jH b hg,kR]
     split
     ·rename_i e
      have h1:=Ab x a';have h2:=rA (x++47::a') x;subst e;cases hp:parts a' with
      | nil=>exact aG hp (Jk a' [])
      | cons q r=>simp[kR];omega
     ·rename_i e
      have:=pH x b (47::a') [] hx hg (.inr ⟨_,rfl⟩) (.inl rfl) e;simpa using this.symm
    ·rw[jR y b' hy,kR]
     split
     ·rename_i e
      subst e;rw[ih a' b' (by simp at ha;omega),Ij];simp[cmp]
     ·rename_i e
      have:=pH x y (47::a') (47::b') hx hy (.inr ⟨_,rfl⟩) (.inr ⟨_,rfl⟩) e;exact this.symm
 exact key a.length a b (aV _)
theorem SS{p q:aB aD}(hp:X[k]?=aO p)(hq:Y[k]?=aO q):kR (X.drop k) (Y.drop k)=if p=q then kR (X.drop (k+1)) (Y.drop (k+1))else Op.bytesLess p q:=by obtain⟨h1,rfl⟩:=aQ.1 hp;obtain⟨h2,rfl⟩:=aQ.1 hq;rw[cP h1,cP h2,kR]
theorem I8(h1:k<X.length)(h2:Y.length<=k):kR (X.drop k) (Y.drop k)=aH:=by rw[cP h1,cy h2,kR]
theorem Pp(h1:X.length=k)(h2:k<=Y.length):kR (X.drop k) (Y.drop k)=decide ((X.length:aF)<(Y.length:aF)):=by
 rw[cy (by omega)];by_cases h:k<Y.length
 ·rw[cP h,kR];simp;omega
 ·rw[cy (by omega),kR];simp;omega
end Go.Proofs.YtjnkfelecopbjaaGreatDoor.PM
namespace Go.Proofs.YtjnkfelecopbjaaGreatDoor
open Go.RowKit PM
theorem jE.anR{w:aw}{aS:aE}{v:az}{bs:aB aA}(h:jE w aS v bs)(hn:0<bs.length):∃ g cap,v=ah (aO ⟨g,0,aN⟩) bs.length cap/\aS<=g/\g<w.heap.size/\∀ (j:aE) x,bs[j]?=aO x->w.cell? ⟨g,j,aN⟩=aO (ai x):=by
 rcases h.2 with⟨_,h0⟩|⟨g,cap,eI,rfl,hg,hh,r1,r2,r3,r4⟩
 ·omega
 ·refine⟨g,cap,rfl,hg,?_,fun j x hx=>?_⟩
  ·rcases gR g w with h'|h'
   ·exact h'
   ·rw[il h']at hh;cases hh
  ·have:=xm (w:=w) h (g:=g) rfl j (ai x) (by rw[cD,hx];rfl)
   by_cases hj:j=0
   ·subst hj;simpa[Addr.add]using this
   ·simpa[Addr.add,hj]using this
theorem wS{l:aB aD}{bs:aB aA}(h:bs.map (·.data.toList)=parts l):0<bs.length:=by
 rcases Nat.eq_zero_or_pos bs.length with h0|h0
 ·have:=congrArg List.length h
  rw[bQ,h0]at this;exact aG (dr.1 this.symm) (Jk l [])
 ·exact h0
theorem uu(s:aA)(w:aw)(hs:s.size<=4294967296):ay aP 97 #[ai s] w fun e w'=>e=aK (aq (anI s))/\au w w w':=by
 go_enter Tryz.func97,Tryz.ntmps97;go_wp2_with (go_at_call 98;fail);refine(qT s w hs).mono ?_;rintro e w1 ⟨⟨v,bs,rfl,hS,hP⟩,hB⟩;obtain⟨g,cap,rfl,x7,uI,nX⟩:=hS.anR (wS hP);have HP:Hid (bs.map (·.data.toList)=parts s):=hP;have HC:Hid (∀ (j:aE) x,bs[j]?=aO x->w1.cell? ⟨g,j,aN⟩=aO (ai x)):=nX;have xV:bs.length<=s.size+1:=by have h1:=qP s.data.toList;rw[<- hP,bQ,ix]at h1;exact h1
 clear hP nX hS;go_wp2;go_loopw [8] (fun i wr=>∃ k:aE,k<=bs.length/\i=aa ag k/\au w1 w1 wr/\Hid (∀ p∈(parts s).take k,named p=aI)) (fun i _=>bs.length-(intOf i).toNat)
 case atStart=>exact⟨0,bF _,rfl,aR _ _,by intro c hc;simp at hc⟩
 case round=>
  obtain⟨k,hk,rfl,xq,HA⟩:=hrel;by_cases gm:k<bs.length
  ·have vL:(k:aF)<(bs.length:aF):=by omega
   obtain⟨p,hp⟩:∃ p,bs[k]?=aO p:=⟨_,aU gm⟩
   have hcell:wr.cell? ⟨g,k,aN⟩=aO (ai p):=(xq.cell (p:=⟨g,k,aN⟩) uI).trans (HC.out k p hp);have rf:=(wT s HP.out hp).2;have hpm:p.size<=maxLen:=by unfold maxLen;omega
   have Ki:Hid ((parts s)[k]?=aO p.data.toList):=by show _=_;rw[<- HP.out,cD,hp];rfl
   clear hp;cases hn:named p with
   | true =>have HN:Hid (∀ q∈(parts s).take (k+1),named q=aI):=Fy Ki.out HA.out hn;clear HA;go_wp2_with (go_at_call 105;refine(qR _ _ (by assumption)).mono ?_;rintro e w2 ⟨rfl,fC⟩);exact⟨⟨k+1,by omega,by go_num,Below.bK xq fC,HN⟩,by simp[intOf];omega⟩
   | false=>
    have HN:Hid (anI s.data.toList=aH):=by
     show _=_;cases hc:anI s with
     | false=>rfl
     | true=>rw[((qZ _).1 hc).2 _ (bw Ki.out)]at hn;cases hn
    clear HA;go_wp2_with (go_at_call 105;refine(qR _ _ (by assumption)).mono ?_;rintro e w2 ⟨rfl,fC⟩);go_ret;exact⟨df HN.symm,Below.bK hB (Below.bK xq fC)⟩
  ·have vL:¬ (k:aF)<(bs.length:aF):=by omega
   have HN:Hid (anI s.data.toList=decide ((s.size:aF)<=80)):=by
    show _=_;rw[dN,qZ,ew,ix];constructor
    ·rintro⟨a,_⟩;omega
    ·intro a
     exact⟨by omega,fun p hp=>HA.out p (by rw[cz (by rw[<- HP.out,bQ];omega)];exact hp)⟩
   clear HA;go_wp2;go_ret;exact⟨df HN.symm,Below.bK hB xq⟩
theorem Bi(s t:aA)(w:aw)(hs:s.size<=4294967296)(ht:t.size<=4294967296):ay aP 50 #[ai s,ai t] w fun e w'=>e=aK (aq (decide (cmp s t.data.toList<0)))/\au w w w':=by
 rw[<- I7];go_enter Tryz.func50,Tryz.ntmps50;go_wp2_with (go_at_call 98;fail);refine(qT s w hs).mono ?_;rintro e w1 ⟨⟨v,bs,rfl,hS,hP⟩,hB⟩;obtain⟨g,cap,rfl,x7,uI,nX⟩:=hS.anR (wS hP);have HP:Hid (bs.map (·.data.toList)=parts s):=hP;have HC:Hid (∀ (j:aE) x,bs[j]?=aO x->w1.cell? ⟨g,j,aN⟩=aO (ai x)):=nX;have xV:bs.length<=s.size+1:=by have h1:=qP s.data.toList;rw[<- hP,bQ,ix]at h1;exact h1
 clear hP nX hS;go_wp2_with (go_at_call 98;fail);refine(qT t w1 ht).mono ?_;rintro e w2 ⟨⟨v2,cs,rfl,hS,hP⟩,fC⟩;obtain⟨g',cap',rfl,akI,akJ,nX⟩:=hS.anR (wS hP);have U0:Hid (cs.map (·.data.toList)=parts t):=hP;have UO:Hid (∀ (j:aE) x,cs[j]?=aO x->w2.cell? ⟨g',j,aN⟩=aO (ai x)):=nX;have HC1:Hid (∀ (j:aE) x,bs[j]?=aO x->w2.cell? ⟨g,j,aN⟩=aO (ai x)):=fun j x hx=>(fC.cell (p:=⟨g,j,aN⟩) uI).trans (HC.out j x hx)
 have mz:cs.length<=t.size+1:=by have h1:=qP t.data.toList;rw[<- hP,bQ,ix]at h1;exact h1
 have vg:=Below.bK hB fC;have HX:Hid ((parts s).length=bs.length):=by show _=_;rw[<- HP.out,bQ]
 have HY:Hid ((parts t).length=cs.length):=by show _=_;rw[<- U0.out,bQ]
 clear hP nX hS HC hB fC;go_wp2;go_loopw [14] (fun i wr=>∃ k:aE,k<=bs.length/\k<=cs.length/\i=aa ag k/\(∃ n,wr=w2.drewN n)/\Hid (kR ((parts s).drop k) ((parts t).drop k)=kR (parts s) (parts t))) (fun i _=>bs.length-(intOf i).toNat)
 case atStart=>exact⟨0,bF _,bF _,rfl,⟨0,rfl⟩,rfl⟩
 case round=>
  obtain⟨k,hk,j4,rfl,⟨n,rfl⟩,HA⟩:=hrel;by_cases gm:k<bs.length
  ·have vL:(k:aF)<(bs.length:aF):=by omega
   obtain⟨p,hp⟩:∃ p,bs[k]?=aO p:=⟨_,aU gm⟩
   have hcell:w2.cell? ⟨g,k,aN⟩=aO (ai p):=HC1.out k p hp;have Ki:Hid ((parts s)[k]?=aO p.data.toList):=by show _=_;rw[<- HP.out,cD,hp];rfl
   clear hp;by_cases rT:k<cs.length
   ·have gI:decide ((cs.length:aF)<=(k:aF))=aH:=by simp;omega
    have ail:(k:aF)<(cs.length:aF):=by omega
    obtain⟨q,hq⟩:∃ q,cs[k]?=aO q:=⟨_,aU rT⟩
    have xW:w2.cell? ⟨g',k,aN⟩=aO (ai q):=UO.out k q hq;have HQk:Hid ((parts t)[k]?=aO q.data.toList):=by show _=_;rw[<- U0.out,cD,hq];rfl
    clear hq;have sN:=SS Ki.out HQk.out;by_cases he:p.data.toList=q.data.toList
    ·obtain rfl:=Oc he
     rw[aY rfl]at sN;have HN:Hid (kR ((parts s).drop (k+1)) ((parts t).drop (k+1))=kR (parts s) (parts t)):=by show _=_;rw[<- HA.out,sN]
     have aku:Op.bytesLess p.toList p.toList=aH:=N9 _;clear HA he sN;go_wp2;go_quiet (fail);go_wp2;go_quiet (fail);go_wp2;exact⟨⟨k+1,by omega,by omega,by go_num,⟨_,rfl⟩,HN⟩,by simp[intOf];omega⟩
    ·rw[aW he]at sN
     have heq:(p.toList == q.toList)=aH:=by rw[bq,bq];simpa using he
     cases hl:Op.bytesLess p.toList q.toList with
     | true=>
      have HN:Hid (kR (parts s) (parts t)=aI):=by show _=_;rw[<- HA.out,sN,<- bq,<- bq];exact hl
      clear HA he sN;go_wp2;go_quiet (fail);go_wp2;go_quiet (fail);go_wp2;go_ret;exact⟨df HN.symm,by repeat (first|exact vg|refine cG ?_ _)⟩
     | false=>
      have HN:Hid (kR (parts s) (parts t)=aH):=by show _=_;rw[<- HA.out,sN,<- bq,<- bq];exact hl
      clear HA he sN;go_wp2;go_quiet (fail);go_wp2;go_ret;exact⟨df HN.symm,by repeat (first|exact vg|refine cG ?_ _)⟩
   ·have gI:decide ((cs.length:aF)<=(k:aF))=aI:=by simp;omega
    have aby:(cs.length:aF)<=(k:aF):=by omega
    have HN:Hid (kR (parts s) (parts t)=aH):=by show _=_;rw[<- HA.out];exact I8 (by rw[HX.out];omega) (by rw[HY.out];omega)
    clear HA;go_wp2;go_quiet (fail);go_wp2;go_ret;exact⟨df HN.symm,by repeat (first|exact vg|refine cG ?_ _)⟩
  ·have vL:¬ (k:aF)<(bs.length:aF):=by omega
   have HN:Hid (kR (parts s) (parts t)=decide (bs.length<cs.length)):=by show _=_;rw[<- HA.out,<- HX.out,<- HY.out];rw[Pp (by rw[HX.out];omega) (by rw[HY.out];omega)];simp
   clear HA;go_wp2;go_ret;exact⟨df HN.symm,by repeat (first|exact vg|refine cG ?_ _)⟩
/-! ZM -/
theorem GF(s:aA)(w:aw)(hs:s.size<=4294967296):ay aP 58 #[ai s] w (eW w (en s).1 (en s).2):=by
 by_cases h:s.size<=80
 ·have g:¬ (80:aF)<(s.size:aF):=by omega
  by_cases h0:s.data.toList=[]
  ·have hz:s.size=0:=by rw[<- ix,h0];rfl
   have h1:((s.size:aF) == 0)=aI:=by rw[hz];rfl
   have HN:Hid (en s.data.toList=([],6)):=by show _=_;rw[h0];rfl
   clear h0 hz;go_enter Tryz.func58,Tryz.ntmps58;go_wp2;go_ret2;exact eW.mk HN.out rfl rfl (jE.nil _ _) rfl (aR _ _)
  ·have hz:s.size≠0:=fun e=>h0 (dr.1 (by rw[ix];exact e))
   have h1:((s.size:aF) == 0)=aH:=by simp only[dw,ne_eq];omega
   have HL:Hid (∀ r,gD (parts s)=r->en s.data.toList=match r with|none=>([],7)|some x=>(x,0)):=by intro r hr;rw[en,aW (by rw[ix];omega),vO h0,hr];rfl
   clear h0 hz;obtain⟨i0,hi,ou,mL,mh⟩:=E7;go_enter Tryz.func58,Tryz.ntmps58;go_wp2_with (go_at_call 98;fail);refine(qT s w hs).mono ?_;rintro e w1 ⟨⟨vv,Ps,rfl,hS,hP⟩,ph⟩;obtain⟨gg,cap,rfl,x7,uI,nX⟩:=hS.anR (wS hP);have HP:Hid (Ps.map (·.data.toList)=parts s):=hP;have HC:Hid (∀ (j:aE) x,Ps[j]?=aO x->w1.cell? ⟨gg,j,aN⟩=aO (ai x)):=nX;have Gf:Ps.length<=s.size+1:=by have h1:=qP s.data.toList;rw[<- hP,bQ,ix]at h1;exact h1
   clear hP nX hS;go_wp2;go_loopw [4,16] (fun v i wr=>∃ (k:aE) (bs:aB aA),k<=Ps.length/\i=aa ag k/\bs.length<=k/\jE wr w1 v bs/\au w1 w1 wr /\ Hid (gD (parts s)=(gD ((parts s).drop k)).map (bs.map (·.data.toList)++·)))
    (fun _ i _=>Ps.length-(intOf i).toNat)
   case atStart=>exact⟨0,[],bF _,rfl,aV _,jE.nil _ _,aR _ _,by show _=_;simp⟩
   case round=>
    obtain⟨k,bs,hk,rfl,xV,hS,hB,HI⟩:=hrel;by_cases gm:k<Ps.length
    ·have vL:(k:aF)<(Ps.length:aF):=by omega
     obtain⟨p,hp⟩:∃ p,Ps[k]?=aO p:=⟨_,aU (by omega)⟩
     have hcell:wr.cell? ⟨gg,k,aN⟩=aO (ai p):=(hB.cell (p:=⟨gg,k,aN⟩) uI).trans (HC.out k p hp);have rf:=(wT s HP.out hp).2;have Ak:p.size<=maxLen:=by unfold maxLen;omega
     have Ki:Hid ((parts s)[k]?=aO p.data.toList):=by show _=_;rw[<- HP.out,cD,hp];rfl
     clear hp;cases Er:skip p with
     | true=>
      have HN:Hid (gD (parts s)=(gD ((parts s).drop (k+1))).map (bs.map (·.data.toList)++·)):=Bc Ki.out HI.out Er;clear HI;by_cases h0:p.data.toList=[]
      ·have td:=lX h0
       clear h0 Er;go_wp2;exact⟨⟨k+1,bs,by omega,by go_num,by omega,hS,hB,HN⟩,by simp[intOf];omega⟩
      ·have td:=jA h0
       have D0:(p.toList == [46])=aI:=beq_lit p [46] aI (JL Er h0);clear h0 Er;go_wp2;exact⟨⟨k+1,bs,by omega,by go_num,by omega,hS,hB,HN⟩,by simp[intOf];omega⟩
     | false=>
      have td:=jA (Ct Er).1;have D0:(p.toList == [46])=aH:=beq_lit p [46] aH (Ct Er).2;cases BP:bad p with
      | true =>have HN:Hid (gD (parts s)=aN):=Dt Ki.out HI.out Er BP;have Wz:Hid (en s.data.toList=([],7)):=HL.out _ HN.out;have Hg:=beq_lit p [46,46] aH (wD BP).1;have Sr:=Gs p [46,46] (wD BP).1;have hp3:named p.data.toList=aH:=(wD BP).2;clear HI Er BP;go_wp2_with (go_at_call 105;refine(qR _ _ (by assumption)).mono ?_;rintro e w2 ⟨rfl,fC⟩);go_ret2;exact eW.mk Wz.out rfl rfl (jE.nil _ _) rfl (Below.bK ph (Below.bK hB fC))
      | false=>
       have HN:Hid (gD (parts s)=(gD ((parts s).drop (k+1))).map ((bs++[p]).map (·.data.toList)++·)):=by show _=_;rw[fk];exact Bb Ki.out HI.out Er BP
       clear HI Er;rcases Ky BP with h2|⟨h2,h3⟩
       ·have Ha:wr.ownsRow w1 9 1 u4 bs.length (bs.map Value.string):=hS
        have Hg:=beq_lit p [46,46] aI h2;have Sr:=Rn p [46,46] h2;clear h2 BP hS;go_wp2_with (at_builtin;refine dP _ rfl _ _ 36 rfl w1 9 i0 (ai ByteArray.empty) 1 16 Tryz.underlying36 hi ou mL mh rfl (by decide) _ _ _ rfl (Ha.alloc _) ⟨wr,0,aN⟩ 1 1 [ai p] rfl rfl ?c1 ?c2 ?c3 ?c4 ?c5 ?_)
        case c1=>exact og _ _ _
        case c2=>intro u hu;simp at hu;subst hu;rfl
        case c3=>unfold maxLen;omega
        case c4=>omega
        case c5=>have:=hB.size;simp;omega
        ·intro v' w3 gG gN _
         go_wp2;have fg:=sb hB hB.size Ha gN;exact⟨⟨k+1,bs++[p],by omega,by go_num,by simp;omega,by simpa[jE]using gG,fg,HN⟩,by simp[intOf];omega⟩
       ·have Hg:=beq_lit p [46,46] aH h2
        have Sr:=Gs p [46,46] h2;clear h2 BP;go_wp2_with (go_at_call 105;fail);refine(qR _ _ (by assumption)).mono ?_;rintro e w2 ⟨rfl,fC⟩;have RL:=Below.bK hB fC;have Ha:w2.ownsRow w1 9 1 u4 bs.length (bs.map Value.string):=hS.below fC;clear hB fC hS hcell;go_wp2_with (at_builtin;refine dP _ rfl _ _ 36 rfl w1 9 i0 (ai ByteArray.empty) 1 16 Tryz.underlying36 hi ou mL mh rfl (by decide) _ _ _ rfl (Ha.alloc _) ⟨w2,0,aN⟩ 1 1 [ai p] rfl rfl ?c1 ?c2 ?c3 ?c4 ?c5 ?_)
        case c1=>exact og _ _ _
        case c2=>intro u hu;simp at hu;subst hu;rfl
        case c3=>unfold maxLen;omega
        case c4=>omega
        case c5=>have:=RL.size;simp;omega
        ·intro v' w3 gG gN _
         go_wp2;have fg:=sb RL RL.size Ha gN;exact⟨⟨k+1,bs++[p],by omega,by go_num,by simp;omega,by simpa[jE]using gG,fg,HN⟩,by simp[intOf];omega⟩
    ·have vL:¬ (k:aF)<(Ps.length:aF):=by omega
     have HN:Hid (en s.data.toList=(bs.map (·.data.toList),0)):=by
      have hh:=HL.out (aO (bs.map fun x=>x.data.toList)) (by
       rw[HI.out,cy (by rw[<- HP.out,bQ];omega)];simp[gD])
      exact hh
     clear HI HL;go_wp2;go_ret2;exact eW.mk HN.out rfl rfl (hS.mono ph.size) rfl (Below.bK ph hB)
 ·have g:(80:aF)<(s.size:aF):=by omega
  have HN:Hid (en s.data.toList=([],4)):=by show _=_;rw[en,aY (by rw[ix];omega)]
  go_enter Tryz.func58,Tryz.ntmps58;go_wp2;go_ret2;exact eW.mk HN.out rfl rfl (jE.nil _ _) rfl (aR _ _)
open Go.Sort
theorem OG{t:aB bP}{k:aE}{y:bP}{q:aB aD}(hy:t[k]?=aO y)(hn:y.p≠q)(h:(t.drop k).find? (fun e=>decide (e.p=q))=t.find? (fun e=>decide (e.p=q))):(t.drop (k+1)).find? (fun e=>decide (e.p=q))=t.find? (fun e=>decide (e.p=q)):=by obtain⟨h1,h2⟩:=aQ.1 hy;rw[cP h1,QT,h2]at h;simpa[hn]using h
theorem Rv{t:aB bP}{k:aE}{y:bP}{q:aB aD}(hy:t[k]?=aO y)(hn:y.p=q)(h:(t.drop k).find? (fun e=>decide (e.p=q))=t.find? (fun e=>decide (e.p=q))):t.find? (fun e=>decide (e.p=q))=aO y:=by obtain⟨h1,h2⟩:=aQ.1 hy;rw[<- h,cP h1,QT,h2];simp[hn]
theorem aaR{W:aw}{B:aE}{a b c d u0 u1 u2 u3:az}(o:Obj)(h0:W.cell? B=aO u0)(h1:W.cell? ⟨B,1,aN⟩=aO u1)(h2:W.cell? ⟨B,2,aN⟩=aO u2)(h3:W.cell? ⟨B,3,aN⟩=aO u3):(((((W.setCell B a).setCell ⟨B,1,aN⟩ b).setCell ⟨B,2,aN⟩ c).setCell ⟨B,3,aN⟩ d).alloc o).cell? B=aO a/\(((((W.setCell B a).setCell ⟨B,1,aN⟩ b).setCell ⟨B,2,aN⟩ c).setCell ⟨B,3,aN⟩ d).alloc o).cell? ⟨B,1,aN⟩=aO b /\
  (((((W.setCell B a).setCell ⟨B,1,aN⟩ b).setCell ⟨B,2,aN⟩ c).setCell ⟨B,3,aN⟩ d).alloc o).cell? ⟨B,2,aN⟩=aO c/\(((((W.setCell B a).setCell ⟨B,1,aN⟩ b).setCell ⟨B,2,aN⟩ c).setCell ⟨B,3,aN⟩ d).alloc o).cell? ⟨B,3,aN⟩=aO d:=by
 refine⟨bj o ?_,bj o ?_,bj o ?_,bj o ?_⟩<;>go_simp
theorem ij(t:aB bP)(q:aA)(p:aC aJ)(cap:aE)(w:aw)(hL:bI w p t)(hn:t.length<4611686018427387904)(x:bP)(b:Bool)(hx:(bW t q).getD cR=x)(hb:(bW t q).isSome=b):ay aP 31 #[ah p t.length cap,ai q] w fun r w'=>r=aK (aL #[ar #[ai x.bm, aa ag x.bE, ai x.text, aq x.opq],aq b])/\au w w w':=by
 by_cases h0:q.data.toList=[]
 ·have h1:=lX h0
  rw[h0,iE]at hx hb;obtain rfl:tT=x:=hx;obtain rfl:aI=b:=hb;clear h0;go_enter Tryz.func31,Tryz.ntmps31;go_wp2;refine ba (v:=aL #[ar #[ai tT.bm, aa ag tT.bE, ai tT.text, aq tT.opq],aq aI]) (by simp[results,Tryz.results31,go_sem,tT];rfl) rfl ?_;exact⟨rfl,(aR _ _).alloc (aV _) _⟩
 ·have h1:=jA h0
  have HX:ax ((t.find? fun e=>decide (e.p=q.data.toList)).getD cR=x/\(t.find? fun e=>decide (e.p=q.data.toList)).isSome=b):=by unfold bW at hx hb;rw[aW h0]at hx hb;exact⟨hx,hb⟩
  have HL:ax (bI w p t):=hL;obtain⟨n,eK⟩:=ee t.length
  have HN:ax (n=t.length):=eK;rw[<- eK]at hn ⊢;clear eK hL h0 hx hb;go_enter Tryz.func31,Tryz.ntmps31;go_wp2;go_loopg [13] n (fun gg s13 wr=>∃ k:aE,k<=n/\n-k<=gg/\s13=aa ag k/\ax (au (w.heap.size+1) (w.alloc (aM #[ai ⟨#[]⟩,aa ag 0,ai ⟨#[]⟩,aq aH] 88)) wr)/\ax ((t.drop k).find? (fun e=>decide (e.p=q.data.toList))=t.find? (fun e=>decide (e.p=q.data.toList))))
  case atStart=>exact⟨0,bF _,by omega,rfl,aR _ _,by simp[ax]⟩
  case round=>
   obtain⟨k,hk,oP,rfl,BW,FD⟩:=hrel;have pJ:=eX BW.out;obtain⟨⟨r0,r1,r2,r3⟩,⟨f0,f1,f2,f3⟩⟩:=iv (bC _) BW.out;have Lj:w.heap.size<wr.heap.size:=bg r0;have Sm:w.heap.size≠wr.heap.size:=by omega
   by_cases gm:k<n
   ·have eN:(k:aF)<(n:aF):=by omega
    obtain⟨y,hy⟩:∃ y,t[k]?=aO y:=⟨_,aU (by have:=HN.out;omega)⟩
    have HY:ax (t[k]?=aO y):=hy;rcases HL.out with h0|⟨b',off,rfl,ot,hc⟩
    ·rw[h0]at hy;simp at hy
    obtain⟨c0,c1,c2,c3⟩:=bI.cells hc ot pJ hy;clear hc hy;rcases CN y.bm q with⟨e1,EQ⟩|⟨e1,EQ⟩
    ·obtain⟨tJ,yc⟩:=HX.out
     rw[Rv HY.out EQ.out FD.out]at tJ yc;obtain rfl:y=x:=tJ;obtain rfl:aI=b:=yc;obtain⟨s0,s1,s2,s3⟩:=aaR (a:=ai y.bm) (b:=aa ag y.bE) (c:=ai y.text) (d:=aq y.opq) (aM #[ai y.bm, aa ag y.bE, ai y.text, aq y.opq] 88) r0 r1 r2 r3;go_wp2;refine ba (v:=aL #[ar #[ai y.bm, aa ag y.bE, ai y.text, aq y.opq],aq aI]) (by simp[results,Tryz.results31,go_sem,s0,s1,s2,s3]) rfl ?_;exact⟨rfl,((((pJ.setCell (aV _) _).setCell (aV _) _).setCell (aV _) _).setCell (aV _) _).alloc (by simpa[World.setCell]using pJ.size) _⟩
    ·go_wp2
     go_roundg (n-(k+1))
     case measure=>omega
     case rel=>exact⟨k+1,by omega,by omega,by go_num,NR BW.out,OG HY.out EQ.out FD.out⟩
   ·have eN:¬ (k:aF)<(n:aF):=by omega
    have hz:t.find? (fun e=>decide (e.p=q.data.toList))=aN:=by rw[<- FD.out,cy (by have:=HN.out;omega)];rfl
    obtain⟨tJ,yc⟩:=HX.out;rw[hz]at tJ yc;obtain rfl:cR=x:=tJ;obtain rfl:aH=b:=yc;clear hz;go_wp2;refine ba (v:=aL #[ar #[ai cR.bm, aa ag cR.bE, ai cR.text, aq cR.opq],aq aH]) (by simp[results,Tryz.results31,go_sem,cR,r0,r1,r2,r3]) rfl ?_;exact⟨rfl,uo BW.out _ _ _ _⟩
theorem su(e:bP)(anH:Bool)(w:aw)(he:e.bm.size<=4294967296)(ht:e.text.size<=maxLen):ay aP 49 #[ar #[ai e.bm, aa ag e.bE, ai e.text, aq e.opq],aq anH] w fun r w'=>r=aK (aa ag (dv e anH))/\au w w w':=by
 obtain⟨p,k,t,o⟩:=e;have RY:=fun W=>uu p W he
 have fg:au (w.heap.size+1) (w.alloc (aM #[ai p,aa ag k,ai t,aq o] 88)) (w.alloc (aM #[ai p,aa ag k,ai t,aq o] 88)):=aR _ _;unfold maxLen at ht;have sk:=ways ⟨p,k,t,o⟩ anH;unfold Kt at sk;generalize dv ⟨p,k,t,o⟩ anH=r at sk ⊢;simp only[bP.p]at sk;generalize anI p.data.toList=cl at sk RY;show ay aP 49 #[ar #[ai p,aa ag k,ai t,aq o],aq anH] w _;rcases sk with⟨hr,⟨k1,k2,k3,k4,hl|hl⟩|⟨hk,hl⟩⟩|⟨hk|hk|hk|⟨hk,hl⟩,⟨hr,hc⟩|⟨hr,hc,hs⟩|⟨hc,hs,⟨hr,h0,tH⟩|⟨hr,h0,tH⟩|⟨⟨h0,tH⟩|⟨h0,tH⟩,⟨hr,ho⟩|⟨hr,ho,YL⟩|⟨hr,ho,YL,j4⟩|⟨hr,ho,YL,j4⟩⟩⟩⟩;all_goals try (exfalso;omega)
 all_goals (try subst hk)
 all_goals (try subst hl)
 all_goals try contradiction
 all_goals (try subst YL)
 all_goals (try subst ho)
 all_goals (try subst hc)
 all_goals (try clear tH)
 all_goals (try clear j4)
 all_goals try have h0':=S4 h0
 all_goals try have h0':=Dq h0
 all_goals have HR:ax (_=_):=hr
 all_goals clear hr
 all_goals try (
  have kk:k<1\/4<k:=by have g1:=dw.1 k1;have g2:=dw.1 k2;have g3:=dw.1 k3;have g4:=dw.1 k4;omega
  clear k1 k2 k3 k4;rcases kk with kk|kk)
 all_goals
  go_enter Tryz.func49,Tryz.ntmps49;go_wp2_with (go_at_call 97;refine(RY _).mono ?_;rintro rr w3 ⟨rfl,hN⟩;replace fg:=oC fg hN;clear hN;obtain⟨⟨c0,c1,c2,c3⟩,_⟩:=iv (bC _) fg);go_ret;exact⟨gu HR.symm,eX fg⟩
