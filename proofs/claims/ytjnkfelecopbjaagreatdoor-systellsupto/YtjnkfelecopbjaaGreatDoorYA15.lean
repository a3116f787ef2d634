import Derived.Test.YtjnkfelecopbjaaGreatDoorYA14
open Go.Proofs.Tryz
open Go.Value renaming int->aa,slice->ah,string->ai,pointer->aj,bool->aq,agg->ar,tuple->aL
open Go.IntKind renaming i64->ag
open Go.RowKit renaming Below->au
open Go renaming World->aw,Aside->ax,Calls->ay,Value->az,Addr->aJ
open _root_ renaming ByteArray->aA,List->aB,Option->aC,UInt8->aD,Nat->aE,Int->aF,absurd->aG
open Bool renaming false->aH,true->aI
open Go.Obj renaming cells->aM
open Option renaming none->aN,some->aO
open Go.Proofs.Tryz renaming prog->aP
set_option linter.all false
set_option maxHeartbeats 4000000
set_option maxRecDepth 100000
namespace Go.Proofs.YtjnkfelecopbjaaGreatDoor
open Go.RowKit PM Go.Sort
variable{L:im}{S aS g i j n:aE}{W W' w:aw}{qY:aB An}{cn:aF}{eI:Array az}{e:bP}{f:Fl}{cq:aB (aB bP)}{op:qI}{p:aA}{bA up:aB bP}{v:az}
structure Av where
 err:aF
 n:aF
 text:aA
 p:aC aJ
 k:aE
 c:aE
def uV(y:Av):aB az:=[aa ag y.err,aa ag y.n,ai y.text,ah y.p y.k y.c]
theorem Nc{e:Av}(h:(uV e)[i]?=aO v):i<4:=by have:=(aQ.1 h).1;exact this
theorem Iq{t:aB Av}{e:Av}(h:t[j]?=aO e)(hv:(uV e)[i]?=aO v):(t.flatMap uV)[j*4+i]?=aO v:=by
 have hi:=Nc hv;induction t generalizing j with
 | nil=>simp at h
 | cons x r ih=>
  rw[eQ];cases j with
  | zero=>simp at h;subst h;rw[bR (by show _<4;omega)];simpa using hv
  | succ j =>rw[cg (by show 4<=_;omega),show(j+1)*4+i-(uV x).length=j*4+i from by show(j+1)*4+i-4=_;omega];exact ih (by simpa using h)
theorem wI{t:aB Av}{u:az}(h:u∈t.flatMap uV):u.oneCell'=aI:=by obtain⟨e,_,he⟩:=mW.1 h;simp[uV]at he;rcases he with rfl|rfl|rfl|rfl<;>rfl
theorem acr:∃ i0,Tryz.prog.info? 38=aO i0/\i0.zero=aO (ar #[aa ag 0,aa ag 0,ai ⟨#[]⟩,ah aN 0 0])/\i0.size=4/\i0.bytes=56:=by
 have h:(Tryz.prog.info? 38).map (fun i=>(i.zero,i.size,i.bytes))=aO (aO (ar #[aa ag 0,aa ag 0,ai ⟨#[]⟩,ah aN 0 0]),4,56):=by kernel_rfl
 cases hi:Tryz.prog.info? 38 with
 | none=>rw[hi]at h;cases h
 | some i0 =>rw[hi]at h;simp only[dF,dt,jX]at h;exact⟨i0,rfl,h.1,h.2.1,h.2.2⟩
def kv(w:aw)(aS:aE)(v:az)(l:aB Av):Prop:=w.ownsRow aS 38 4 v l.length (l.flatMap uV)
theorem kv.nil(w:aw)(aS:aE):kv w aS (ah aN 0 0) []:=kK _ _ _ _
theorem kv.own{l:aB Av}(h:kv w aS v l)(hg:v.ownBlock=aO g):aS<=g/\∃ eI,w.heap[g]?=aO (aM eI 38 (0,0)):=by
 obtain⟨_,⟨e,_⟩|⟨g',cap,eI,e,hb,hh,_⟩⟩:=h
 ·rw[e]at hg;cases hg
 ·rw[e]at hg
  simp[Value.ownBlock]at hg;subst hg;exact⟨hb,eI,hh⟩
theorem kv.at{w':aw}{l:aB Av}(h:kv w aS v l)(hk:∀ g,v.ownBlock=aO g->w'.heap[g]?=w.heap[g]?):kv w' aS v l:=by refine⟨h.1,h.2.imp id ?_⟩;rintro⟨g,cap,eI,e,hg,hh,r⟩;exact⟨g,cap,eI,e,hg,(hk g (by rw[e];rfl)).trans hh,r⟩
theorem TE(W:aw)(y:Av):∀ j u,(uV y)[j]?=aO u->(W.alloc (aM #[aa ag y.err,aa ag y.n,ai y.text,ah y.p y.k y.c] 38)).cell? ((⟨W,0,aN⟩:aJ).add j)=aO u:=by
 intro j u h;have hj:=Nc h;obtain rfl|rfl|rfl|rfl:j=0\/j=1\/j=2\/j=3:=by omega
 all_goals (simp[uV]at h;subst h;rw[dG];simp)
theorem Hv{ops:Array Oper}{rest:aB Oper}{o:Oper}{a:Act}{Q:Exit->Act->aw->Prop}(Z:aw)(H:aE)(y:Av)(ly:o.guard=aN)(s x:Operand)(ho:o.op=.call { callee:=.builtin .append,args:=#[s,x],argTypes:=#[30,30] })(aS:aE)(v:az)(l:aB Av)(hs:a.eval s=v)(Nv:kv Z aS v l)(hlen:l.length<=20000)(eD:aS<=Z)(hx:a.eval x=ah (aO H) 1 1)(j5:∀ j u,(uV y)[j]?=aO u->Z.cell? ((⟨H,0,aN⟩:aJ).add j)=aO u)(h:∀ v' w',kv w' aS v' (l++[y])->Z.heap.size<=w'.heap.size->(∀ b,b<Z.heap.size->v.ownBlock≠aO b->w'.heap[b]?=Z.heap[b]?)->(∀ g,v'.ownBlock=aO g->v.ownBlock=aO g\/Z.heap.size<=g)->au aS Z w'->wpList aP ops Q rest (a.put o.dst v') w'):wpList aP ops Q (o::rest) a Z:=by
 obtain⟨i0,hi,ou,mL,mh⟩:=acr;have ph:au aS Z Z:=aR aS Z;obtain⟨J9,⟨hv,IL⟩|⟨g,cap,eI,hv,hg,hh,C6,hm,hcs,ht⟩⟩:=id Nv
 ·refine Kc Z ly s x 30 ho 38 i0 _ 4 56 underlying30 hi ou mL mh rfl (by decide) aN 0 0 [] (by rw[hs,hv]) (fun _=>⟨rfl,rfl⟩) rfl nofun ⟨H,0,aN⟩ 1 1 (uV y) hx rfl j5 (fun u hu=>wI (t:=[y]) (by simpa using hu)) (by omega) (by unfold maxLen;omega) (by omega) ?_
  intro v' w' gG gN;have hl:l=[]:=bX IL;subst hl;have hR:kv w' Z v' [y]:=by simpa[kv]using gG
  refine h v' w' ⟨hR.1,hR.2.imp id (fun⟨g,c,cu,e,h1,r⟩=>⟨g,c,cu,e,by omega,r⟩)⟩ (by have:=gN.size;omega) (fun b hb hne=>(gN.block b (by omega) (by simp))) (fun g hg=>.inr (by have:=(hR.own hg).1;omega)) (ph.grown gN (by omega) (fun k hk=>by simp at hk))
 ·rcases gR cap (l.length+1)with abv|zh
  ·refine Kc Z ly s x 30 ho 38 i0 _ 4 56 underlying30 hi ou mL mh rfl (by decide) (aO ⟨g,0,aN⟩) l.length cap (l.flatMap uV) (by rw[hs,hv]) nofun J9 (fun b hb=>by cases hb;exact xm Nv (by rw[hv];rfl)) ⟨H,0,aN⟩ 1 1 (uV y) hx rfl j5 (fun u hu=>wI (t:=[y]) (by simpa using hu)) abv (by unfold maxLen;omega) (by omega) ?_
   intro v' w' gG gN;have hR:kv w' Z v' (l++[y]):=by simpa[kv]using gG
   refine h v' w' ⟨hR.1,hR.2.imp id (fun⟨g,c,cu,e,h1,r⟩=>⟨g,c,cu,e,by omega,r⟩)⟩ (by have:=gN.size;omega) (fun b hb hne=>(gN.block b (by omega) (by simp))) (fun g hg=>.inr (by have:=(hR.own hg).1;omega)) (ph.grown gN (by omega) (fun k hk=>by simp at hk))
  ·refine oD ly fun K hK=>?_
   obtain⟨v',w',hr,h2,h3,_⟩:=run_append_own (P:=aP) Z aS 30 o.type 38 i0 _ 4 56 underlying30 hi ou mL mh rfl (by decide) v l.length (l.flatMap uV) Nv ⟨H,0,aN⟩ 1 1 (uV y) rfl j5 (fun u hu=>wI (t:=[y]) (by simpa using hu)) (by unfold maxLen;omega) (by omega) (by omega);have Cr:=run_append_room_cells (P:=aP) Z 30 o.type 38 i0 underlying30 hi g 0 l.length cap ⟨H,0,aN⟩ 1 1 (uV y) (by rw[mL];rfl) j5 (fun u hu=>wI (t:=[y]) (by simpa using hu)) zh (fun j hj=>by
    have hj:j<4:=hj;rw[mL];have:l.length*4+j<eI.size:=by omega
    rw[dD];simp[World.cell?,hh,this]) (fun j hj=>by simp[World.frozen?,hh])
   rw[<- hv]at Cr;have hev:v'=ah (aO g) (l.length+1) cap:=by rw[hr]at Cr;injection Cr
   have hR:kv w' aS v' (l++[y]):=by simpa[kv]using h2
   unfold Oper.wp execOp;simp only[ho,resolve,invoke,builtin,lx,my,iQ,zW,iP,Kn,hs,hx,hr];refine hK _ _ (h v' w' hR (by have:=h3.size;omega) (fun b hb hne=>(h3.block b (by omega) (fun e=>hne e.symm))) (fun g' Ei=>.inl ?_) (ph.grown h3 (by omega) (fun k hk=>(gQ Nv k hk).1)));rw[hev]at Ei;rw[hv,<- Ei];rfl
theorem CE{ops:Array Oper}{rest:aB Oper}{o:Oper}{a:Act}{Q:Exit->Act->aw->Prop}(X:aw)(y:Av)(ly:o.guard=aN)(s x:Operand)(ho:o.op=.call { callee:=.builtin .append,args:=#[s,x],argTypes:=#[30,30] })(aS:aE)(v:az)(l:aB Av)(hs:a.eval s=v)(jF:kv X aS v l)(hlen:l.length<=20000)(eD:aS<=X)(hx:a.eval x=ah (aO X) 1 1)(h:∀ v' w',kv w' aS v' (l++[y])->X.heap.size<=w'.heap.size->(∀ b,b<X.heap.size->v.ownBlock≠aO b->w'.heap[b]?=X.heap[b]?)->(∀ g,v'.ownBlock=aO g->v.ownBlock=aO g\/X.heap.size<=g)->au aS X w'->wpList aP ops Q rest (a.put o.dst v') w'):wpList aP ops Q (o::rest) a (X.alloc (aM #[aa ag y.err,aa ag y.n,ai y.text,ah y.p y.k y.c] 38)):=by exact Hv _ X y ly s x ho aS v l hs (qD jF _) hlen (by simp;omega) hx (TE X y) fun v' w' h1 h2 h3 h4 h5=>h v' w' h1 (by simp at h2;omega) (fun b hb hne=>(h3 b (by simp;omega) hne).trans (((Grown.refl X).alloc _).below.block b hb)) (fun g hg=>(h4 g hg).imp id (fun e=>by simp at e;omega)) (((aR aS X).alloc eD _).trans h5)
theorem rv.sp{s:Sy}{b:aE}(h:rv S s L b):Sp S s L b:=by
 rcases h with e|h
 ·exact .inl (.inl e)
 ·exact .inr h
theorem St.step{s s':Sy}{L':im}{F:aw->Prop}(h:St (Sp S s L) W F)(hk:cA (rv S s L) W W')(hs:∀ b,Sp S s' L' b->Sp S s L b\/W.heap.size<=b):St (Sp S s' L') W' F:=fun Y hY=>
 h Y ⟨bc hk.size hY.size,fun b hb hn=>(hY.block b (aZ hb hk.size) (fun h2=>(hs b h2).elim hn (fun h3=>by omega))).trans (hk.block b hb (fun hm=>hn hm.sp))⟩
theorem St.row{s:Sy}{F:aw->Prop}{G:aE->Prop}(h:St (Sp S s L) W F)(hk:cA L.ex W W')(hG:∀ b,G b->W.heap.size<=b):St (Sp S s { L with ex:=fun b=>G b\/L.ex b }) W' F:=fun Y hY=>
 h Y ⟨bc hk.size hY.size,fun b hb hn=>(hY.block b (aZ hb hk.size) (fun h2=>by
  rcases h2 with(e|(hg|hx))|h2
  ·exact hn (.inl (.inl e))
  ·have:=hG b hg;omega
  ·exact hn (.inl (.inr hx))
  ·exact hn (.inr h2))).trans (hk.block b hb (fun hx=>hn (.inl (.inr hx))))⟩
theorem bV.JB{s:Sy}{G:aE->Prop}(h:bV aS W S s L)(hk:cA (fun b=>L.ex b/\¬ rv S s L b) W W')(hG:∀ b,G b->W.heap.size<=b/\b<W'.heap.size):bV aS W' S s { L with ex:=fun b=>G b\/L.ex b }:=by
 have hx:cA L.ex W W':=hk.pw fun b hb=>hb.1
 have hbW:aS<=W.heap.size:=bc h.aS.1 (bM h.lt);refine⟨?_,fun j o ho=>?_,fun i f hf=>?_,h.Df,h.B6,fun Y hY=>?_,h.up,h.low,h.sI,h.sJ,h.qo,h.pV,fun b hb=>?_,h.aS⟩
 ·obtain⟨arr,ha,r⟩:=h.blk
  exact⟨arr,(hk.block S h.lt (fun e=>e.2 (.inl rfl))).trans ha,r⟩
 ·have hj:=(aQ.1 ho).1
  exact(hk.block _ (h.Cs hj) (fun e=>e.2 (.inr (.inl ⟨j,hj,rfl⟩)))).trans (h.opn j o ho)
 ·have hi:=(aQ.1 hf).1
  exact(hk.block _ (h.BL hi) (fun e=>e.2 (.inr (.inr ⟨i,hi,rfl⟩)))).trans (h.tY i f hf)
 ·have hd:=St.row h.data hx (fun b hb=>(hG b hb).1) Y hY
  exact⟨hd.un,hd.bA,hd.b9⟩
 ·rcases hb with hb|hb
  ·exact⟨bc hbW (hG b hb).1,(hG b hb).2⟩
  ·exact⟨(h.wF b hb).1,aZ (h.wF b hb).2 hk.size⟩
theorem Bq{s:Sy}(h:bV aS W S s L)(hh:W.heap[g]?=aO (aM eI 38 (0,0))):¬ rv S s L g:=by
 rintro(e|⟨j,hj,e⟩|⟨i,hi,e⟩)
 ·obtain⟨arr,ha,_⟩:=h.blk
  rw[<- e,hh]at ha;injection ha with ha;injection ha with _ ha _;exact aG ha (by decide)
 ·have ha:=h.opn j _ (aU hj)
  rw[<- e,hh]at ha;injection ha with ha;injection ha with _ ha _;exact aG ha (by decide)
 ·have ha:=h.tY i _ (aU hi)
  rw[<- e,hh]at ha;injection ha with ha;injection ha with _ ha _;exact aG ha (by decide)
def QD(sp:aE->Prop)(W:aw)(an:An)(y:Av):Prop:=y.err=an.err/\y.n=an.n/\y.text=an.text/\∃ bs:aB aA,y.k=bs.length/\bs.map (·.data.toList)=an.names/\bs.length<=y.c/\(y.p=aN->y.c=0)/\St sp W (fun Y=>jy Y y.p bs)
theorem xz.av{sp:aE->Prop}{an:An}{p:aC aJ}{c:aE}(h:xz sp W an (ar #[aa ag an.err,aa ag an.n,ai an.text,ah p n c])):QD sp W an ⟨an.err,an.n,an.text,p,n,c⟩:=by obtain⟨p',c',bs,e,h1,h2,h3,h4⟩:=h;simp at e;obtain⟨rfl,rfl,rfl⟩:=e;exact⟨rfl,rfl,rfl,bs,rfl,h1,h2,h3,h4⟩
structure oL (aS:aE) (W:aw) (S:aE) (s:Sy) (L:im) (v:az) (qY:aB An) (row:aB Av):Prop where
 at':bV aS W S s L
 rows:kv W aS v row
 own:∀ g,v.ownBlock=aO g->L.ex g
 len:row.length=qY.length
 each:∀ (i:aE) (an:An) (y:Av),qY[i]?=aO an->row[i]?=aO y->QD (Sp S s L) W an y
theorem oL.bB{s:Sy}{row:aB Av}(h:oL aS W S s L v qY row)(hB:au W W W'):oL aS W' S s L v qY row:=by
 refine⟨h.at'.bB hB,h.rows.at (fun g hg=>?_),h.own,h.len,fun i an y h1 h2=>?_⟩
 ·obtain⟨_,eI,hh⟩:=h.rows.own hg
  exact hB.block g (aX.1 hh).1
 ·obtain⟨e1,e2,e3,bs,e4,e5,e6,e7,e8⟩:=h.each i an y h1 h2
  exact⟨e1,e2,e3,bs,e4,e5,e6,e7,e8.on (cA.dB _ hB)⟩
theorem oL.yL{w4:aw}{s s':Sy}{row:aB Av}{an:An}{p:aC aJ}{c:aE}(h:oL aS W S s L v qY row)(hd:ki aS S s L s' an W (.returned (ar #[aa ag an.err,aa ag an.n,ai an.text,ah p n c])) w4):au aS W w4/\W.heap.size<=w4/\kv w4 aS v row /\
  ∀ v' w5,kv w5 aS v' (row++[⟨an.err,an.n,an.text,p,n,c⟩])->w4.heap.size<=w5.heap.size->(∀ b,b<w4.heap.size->v.ownBlock≠aO b->w5.heap[b]?=w4.heap[b]?)->(∀ g,v'.ownBlock=aO g->v.ownBlock=aO g\/w4.heap.size<=g)->∃ L':im,(∀ b,L.ex b->L'.ex b)/\oL aS w5 S s' L' v' (qY++[an]) (row++[⟨an.err,an.n,an.text,p,n,c⟩]):=by
 obtain⟨v0,L4,e0,q1,q2,q3,q4,q5,q6⟩:=hd;injection e0 with e0
 subst e0;have IV:kv w4 aS v row:=h.rows.at (fun g hg=>by
  obtain⟨_,eI,hh⟩:=h.rows.own hg;exact q5.block g (aX.1 hh).1 (Bq h.at' hh))
 refine⟨q3,q5.size,IV,fun v' w5 hR iL hk hg=>?_⟩;have hK:cA (fun b=>L4.ex b/\¬ rv S s' L4 b) w4 w5:=⟨iL,fun b hb hn=>hk b hb (fun e=>hn ⟨q4 b (h.own b e),by
  obtain⟨_,eI,hh⟩:=IV.own e;exact Bq q1 hh⟩)⟩
 have hKx:cA L4.ex w4 w5:=hK.pw fun b hb=>hb.1
 refine⟨{ L4 with ex:=fun b=>(v'.ownBlock=aO b/\w4.heap.size<=b)\/L4.ex b },fun b hb=>.inr (q4 b hb),⟨q1.JB hK (fun b hb=>⟨hb.2,?_⟩),hR,fun g Ei=>?_,by simp[h.len],fun i a y h1 h2=>?_⟩⟩
 ·obtain⟨_,eI,hh⟩:=hR.own hb.1
  exact(aX.1 hh).1
 ·rcases hg g Ei with e|hl
  ·exact .inr (q4 g (h.own g e))
  ·exact .inl ⟨Ei,hl⟩
 ·have hG:∀ b,(v'.ownBlock=aO b/\w4.heap.size<=b)->w4.heap.size<=b:=fun b hb=>hb.2
  rcases lh h1 with⟨e,rfl⟩|⟨hi,h1⟩
  ·rcases lh h2 with⟨_,rfl⟩|⟨YH,_⟩
   ·obtain⟨e1,e2,e3,bs,e4,e5,e6,e7,e8⟩:=q2.av
    exact⟨e1,e2,e3,bs,e4,e5,e6,e7,St.row e8 hKx hG⟩
   ·have:=h.len;omega
  ·rcases lh h2 with⟨e,_⟩|⟨_,h2⟩
   ·have:=h.len;omega
   ·obtain⟨e1,e2,e3,bs,e4,e5,e6,e7,e8⟩:=h.each i a y h1 h2
    exact⟨e1,e2,e3,bs,e4,e5,e6,e7,St.row (e8.step q5 q6) hKx hG⟩
namespace PM
noncomputable def Sy.run(s:Sy):aB Cl->Sy × aB An
 | []=>(s,[])
 | c::l=>(((s.anL c).1.run l).1,(s.anL c).2::((s.anL c).1.run l).2)
theorem JE(s:Sy)(l:aB Cl)(c:Cl):s.run (l++[c])=(((s.run l).1.anL c).1,(s.run l).2++[((s.run l).1.anL c).2]):=by
 induction l generalizing s with
 | nil=>rfl
 | cons x r ih =>rw[fF,Sy.run,ih];rfl
theorem GL(s:Sy)(l:aB Cl):(s.run l).2.length=l.length:=by
 induction l generalizing s with
 | nil=>rfl
 | cons x r ih=>rw[Sy.run];simp[ih]
def fJ(up:aB bP)(cq:aB (aB bP)):Sy:=⟨up,cq,[],[],fun _=>aN⟩
end PM
def OA(c:Cl):aB az:=[aa ag c.bE,aa ag c.owner,aa ag c.fd,aa ag c.n,aa ag c.m,ai c.bm,ai c.tw,ai c.text,aq c.alone]
def vu(W:aw)(p:aC aJ)(l:aB Cl):Prop:=l=[]\/∃ b off,p=aO ⟨b,off,aN⟩/\b<W.heap.size/\∀ i c,l[i]?=aO c->∀ j v,(OA c)[j]?=aO v->W.cell? ⟨b,off+i*9+j,aN⟩=aO v
theorem Wo(y:Lay)(lo:aB Lay)(pl:aC aJ)(cl:aE)(ps:aC aJ)(sc R B:aE)(hb:aS<=w)(hRb:aS<=R)(hRB:R<B)(pJ:B<=w)(hU:eZ w y lo pl cl)(hN:qC B y lo pl)(hS:bI w ps (cO (y.es::lo.map (·.es))))(hNs:∀ b off s,ps=aO ⟨b,off,s⟩->B<=b)(hsc:(cO (y.es::lo.map (·.es))).length<=sc)(ik:ps=aN->sc=0):bV aS (w.alloc (aM (#[ah y.ad y.es.length y.cap,ah pl lo.length cl,ah ps (cO (y.es::lo.map (·.es))).length sc]++Array.replicate 32 (aj aN)) 49)) w (fJ y.es (lo.map (·.es))) ⟨y,lo,pl,cl,ps,sc,fun _=>(aN,0),fun _=>0,fun _=>0,fun b=>b=R⟩:=by
 refine⟨⟨_,heap_alloc_last w _,by simp,by simp,by simp,by simp;rfl,fun k hk=>?_⟩,fun j o ho=>by simp[fJ]at ho,fun i f hf=>by simp[fJ]at hf,fun j j' hj=>by simp[fJ]at hj,fun i i' hi=>by simp[fJ]at hi,fun Y hY=>?_,rfl,rfl,hsc,ik,fun k j hk=>by simp[fJ]at hk,fun o ho=>by simp[fJ]at ho,fun b hb=>⟨by rw[show b=R from hb];exact hRb,by rw[show b=R from hb];simp;omega⟩,⟨hb,fun j hj=>by simp[fJ]at hj,fun i hi=>by simp[fJ]at hi⟩⟩
 ·rw[Array.getElem?_append_right (by simp)]
  simp[hk,fJ]
 ·have hK:cA (fun b=>b=w.heap.size\/b=R) (w.alloc (aM (#[ah y.ad y.es.length y.cap,ah pl lo.length cl,ah ps (cO (y.es::lo.map (·.es))).length sc]++Array.replicate 32 (aj aN)) 49)) Y:=hY.pw (fun b hb=>by
   rcases hb with(e|hx)|⟨j,hj,_⟩|⟨i,hi,_⟩
   ·exact .inl e
   ·exact .inr hx
   ·simp[fJ]at hj
   ·simp[fJ]at hi)
  have tH:cA (fun b=>b=R) w Y:=⟨by have:=hK.size;simp at this;omega,fun b hb hne=>(hK.block b (by simp;omega) (by rintro(e|e);omega;exact hne e)).trans (((Grown.refl w).alloc _).below.block b hb)⟩
  have kQ:St (fun b=>b=R) w (fun X=>eZ X y lo pl cl):=eZ.st hU hN (fun b h=>by rw[h];exact hRB);have agk:St (fun b=>b=R) w (fun X=>bI X ps (cO (y.es::lo.map (·.es)))):=bI.st hS (fun b off s e h=>by have:=hNs b off s e;have h:b=R:=h;omega);exact⟨kQ Y tH,agk Y tH,fun i f hf=>by simp[fJ]at hf⟩
theorem oL.write{s:Sy}{row:aB Av}{R:aE}(h:oL aS W S s L v qY row)(hx:L.ex R)(hR:W.heap[R]?=aO (aM eI 29 (0,0)))(hn:¬ rv S s L R)(hk:cA (fun b=>b=R) W W'):∃ L':im,oL aS W' S s L' v qY row/\L'.y=L.y/\L'.lo=L.lo/\L'.pl=L.pl/\L'.cl=L.cl/\L'.ps=L.ps/\L'.sc=L.sc:=by
 have hK:cA (fun b=>L.ex b/\¬ rv S s L b) W W':=hk.pw fun b hb=>by rw[show b=R from hb];exact⟨hx,hn⟩
 have hKx:cA L.ex W W':=hK.pw fun b hb=>hb.1
 refine⟨{ L with ex:=fun b=>False\/L.ex b },⟨h.at'.JB (G:=fun _=>False) hK (fun b hb=>hb.elim),h.rows.at (fun g hg=>?_),fun g hg=>.inr (h.own g hg),h.len,fun i a y h1 h2=>?_⟩,rfl,rfl,rfl,rfl,rfl,rfl⟩
 ·obtain⟨_,c2,hh⟩:=h.rows.own hg
  refine hk.block g (aX.1 hh).1 (fun e=>?_);rw[show g=R from e,hR]at hh;injection hh with hh;injection hh with _ hh _;exact aG hh (by decide)
 ·obtain⟨e1,e2,e3,bs,e4,e5,e6,e7,e8⟩:=h.each i a y h1 h2
  exact⟨e1,e2,e3,bs,e4,e5,e6,e7,St.row (G:=fun _=>False) e8 hKx (fun b hb=>hb.elim)⟩
def sO(W:aw)(p:aC aJ)(l:aB An):Prop:=l=[]\/∃ b,p=aO ⟨b,0,aN⟩/\b<W.heap.size/\∀ i a,l[i]?=aO a->∃ (q:aC aJ) (c:aE) (bs:aB aA),W.cell? ⟨b,i*4,aN⟩=aO (aa ag a.err)/\W.cell? ⟨b,i*4+1,aN⟩=aO (aa ag a.n)/\W.cell? ⟨b,i*4+2,aN⟩=aO (ai a.text)/\W.cell? ⟨b,i*4+3,aN⟩=aO (ah q bs.length c)/\bs.map (·.data.toList)=a.names/\bs.length<=c/\(q=aN->c=0)/\jy W q bs
def vy(s:Sy)(qY:aB An)(W:aw)(r:Ending)(W':aw):Prop:=∃ (y:Lay) (lo:aB Lay) (pl:aC aJ) (cl:aE) (ps:aC aJ) (sc yn ln sn op:aE) (pa:aC aJ) (na ac:aE),r=.returned (aL #[ar #[ah y.ad yn y.cap,ah pl ln cl,ah ps sn sc,aa ag op],ah pa na ac,aa ag 0])/\au W W W'/\ax (yn=y.es.length/\ln=lo.length/\sn=s.bA.length/\op=s.cr.length/\y.es=s.up/\lo.map (·.es)=s.cq/\eZ W' y lo pl cl/\bI W' ps s.bA/\sn<=sc/\(ps=aN->sc=0)/\na=qY.length/\na<=ac/\(pa=aN->ac=0)/\sO W' pa qY)
def zX(e:aF)(W:aw)(r:Ending)(W':aw):Prop:=r=.returned (aL #[ar #[ah aN 0 0,ah aN 0 0,ah aN 0 0,aa ag 0],ah aN 0 0,aa ag e])/\au W W W'
theorem uk{s:Sy}(h:bV aS W S s L){t:TypeId}(hh:W.heap[g]?=aO (aM eI t (0,0)))(h1:t≠49)(h2:t≠80)(h3:t≠169):¬ rv S s L g:=by
 rintro(e|⟨j,hj,e⟩|⟨i,hi,e⟩)
 ·obtain⟨arr,ha,_⟩:=h.blk
  rw[<- e,hh]at ha;injection ha with ha;injection ha with _ ha _;exact h1 ha
 ·have ha:=h.opn j _ (aU hj)
  rw[<- e,hh]at ha;injection ha with ha;injection ha with _ ha _;exact h2 ha
 ·have ha:=h.tY i _ (aU hi)
  rw[<- e,hh]at ha;injection ha with ha;injection ha with _ ha _;exact h3 ha
theorem oL.anO{s:Sy}{row:aB Av}(h:oL aS W S s L v qY row):∃ pa na ac,v=ah pa na ac/\na=qY.length/\na<=ac/\(pa=aN->ac=0)/\sO W pa qY:=by
 obtain⟨J9,⟨hv,IL⟩|⟨g,cap,eI,hv,hg,hh,C6,hm,hcs,ht⟩⟩:=id h.rows
 ·have:qY=[]:=bX (by have:=h.len;omega)
  exact⟨aN,0,0,hv,by rw[this];rfl,aV _,fun _=>rfl,.inl this⟩
 ·refine⟨_,_,_,hv,h.len,C6,nofun,.inr ⟨g,rfl,(aX.1 hh).1,fun i a ha=>?_⟩⟩
  have hi:i<row.length:=by rw[h.len];exact(aQ.1 ha).1
  have hy:row[i]?=aO row[i]:=aU hi;obtain⟨e1,e2,e3,bs,e4,e5,e6,e7,e8⟩:=h.each i a _ ha hy;have hcell:∀ j u,(uV row[i])[j]?=aO u->W.cell? ⟨g,i*4+j,aN⟩=aO u:=fun j u hu=>by
   have:=xm h.rows (g:=g) (by rw[hv];rfl) (i*4+j) u (Iq hy hu)
   rwa [dG,dD]at this
  refine⟨row[i].p,row[i].c,bs,?_,?_,?_,?_,e5,e6,e7,e8.now⟩
  ·rw[<- e1];exact hcell 0 _ rfl
  ·rw[<- e2];exact hcell 1 _ rfl
  ·rw[<- e3];exact hcell 2 _ rfl
  ·rw[<- e4];exact hcell 3 _ rfl
theorem sO.bB{p:aC aJ}{l:aB An}(h:sO W p l)(hB:au W W W'):sO W' p l:=by
 rcases h with h|⟨b,hp,hb,hc⟩
 ·exact .inl h
 ·refine .inr ⟨b,hp,aZ hb hB.size,fun i a ha=>?_⟩
  obtain⟨q,c,bs,e1,e2,e3,e4,e5,e6,e7,e8⟩:=hc i a ha;exact⟨q,c,bs,(hB.cell (p:=⟨b,i*4,aN⟩) hb).trans e1,(hB.cell (p:=⟨b,i*4+1,aN⟩) hb).trans e2,(hB.cell (p:=⟨b,i*4+2,aN⟩) hb).trans e3,(hB.cell (p:=⟨b,i*4+3,aN⟩) hb).trans e4,e5,e6,e7,jy.st e8 (fun _ _ _ _ h=>h) W' ⟨hB.size,fun b hb _=>hB.block b hb⟩⟩
theorem AH{B:aE}{a b c d:az}{t:TypeId}(h:W.heap[B]?=aO (aM #[a,b,c,d] t (0,0)))(a' b' c' d':az):((((W.setCell B a').setCell ⟨B,1,aN⟩ b').setCell ⟨B,2,aN⟩ c').setCell ⟨B,3,aN⟩ d').heap[B]?=aO (aM #[a',b',c',d'] t (0,0)):=by have:=dZ (dZ (dZ (dZ h 0 a') 1 b') 2 c') 3 d';simpa using this
theorem CG{B:aE}(h:au W W w)(hB:W<=B)(a b c d:az):au W W ((((w.setCell B a).setCell ⟨B,1,aN⟩ b).setCell ⟨B,2,aN⟩ c).setCell ⟨B,3,aN⟩ d):=
 (((h.setCell (p:=B) hB _).setCell (p:=⟨B,1,aN⟩) hB _).setCell (p:=⟨B,2,aN⟩) hB _).setCell (p:=⟨B,3,aN⟩) hB _
theorem Ma(y:Lay)(lo:aB Lay)(pl:aC aJ)(cl:aE)(pc:aC aJ)(n cc:aE)(W:aw)(hU:eZ W y lo pl cl)(hg:Gl W W)(h0:¬ (bH (y.es::lo.map (·.es))).1=0):ay aP 4 #[ar #[ah y.ad y.es.length y.cap,ah pl lo.length cl],ah pc n cc] W (zX (bH (y.es::lo.map (·.es))).1 W):=by
 obtain⟨X,hX⟩:=o7 ((W.alloc (aM #[ah y.ad y.es.length y.cap,ah pl lo.length cl] 26)).alloc (aM #[ah aN 0 0,ah aN 0 0,ah aN 0 0,aa ag 0] 29))
 have mg:au W W X:=by rw[<- hX];exact((aR _ _).alloc (aV _) _).alloc (by simp) _
 have br:=jm hX;obtain⟨m,hm⟩:=(hg.bB mg).2;have ik:=zF y lo m pl cl X (hU.bB mg) hm;have HX:ax ((W.alloc (aM #[ah y.ad y.es.length y.cap,ah pl lo.length cl] 26)).alloc (aM #[ah aN 0 0,ah aN 0 0,ah aN 0 0,aa ag 0] 29)=X/\au W W X/\X.heap[W.heap.size+1]?=aO (aM #[ah aN 0 0,ah aN 0 0,ah aN 0 0,aa ag 0] 29)):=⟨hX,mg,br⟩
 rw[<- hX]at ik;generalize (bH (y.es::lo.map (·.es))).1=e at ik h0 ⊢;generalize (cO (y.es::lo.map (·.es)))=sl at ik;generalize y.es.length=yn at *;generalize lo.length=ln at *;have hne:(e != 0)=aI:=by simpa using h0
 clear hU hg mg br hm hX;go_enter func4,ntmps4;go_wp2_with (go_at_call 8;refine ik.mono ?_;clear ik;rintro r w3 ⟨p,c,rfl,_,_,_,eG,_⟩;rw[HX.1]at eG;have k3:w3.heap[W.heap.size+1]?=aO (aM #[ah aN 0 0,ah aN 0 0,ah aN 0 0,aa ag 0] 29):=(eG.block _ (aX.1 HX.2.2).1).trans HX.2.2;obtain⟨⟨d0,d1,d2,d3⟩,z0,z1,z2,z3⟩:=cK k3;have H3:ax (au W W w3/\w3.heap[W.heap.size+1]?=aO (aM #[ah aN 0 0,ah aN 0 0,ah aN 0 0,aa ag 0] 29)):=⟨Below.bK HX.2.1 eG,k3⟩;clear k3 eG);obtain⟨⟨x0,x1,x2,x3⟩,_⟩:=cK (AH H3.2 (ah aN 0 0) (ah aN 0 0) (ah aN 0 0) (aa ag 0));refine ba (v:=aL #[ar #[ah aN 0 0,ah aN 0 0,ah aN 0 0,aa ag 0],ah aN 0 0,aa ag e]) (by simp[results,results4,go_sem,x0,x1,x2,x3]) rfl ?_;exact⟨rfl,CG H3.1 (by omega) _ _ _ _⟩
theorem PO(y:Lay)(lo:aB Lay)(pl:aC aJ)(cl:aE)(pc:aC aJ)(n cc:aE)(W:aw)(hU:eZ W y lo pl cl)(hg:Gl W W)(h0:(bH (y.es::lo.map (·.es))).1=0)(hn:80<n):ay aP 4 #[ar #[ah y.ad y.es.length y.cap,ah pl lo.length cl],ah pc n cc] W (zX 5 W):=by
 obtain⟨X,hX⟩:=o7 ((W.alloc (aM #[ah y.ad y.es.length y.cap,ah pl lo.length cl] 26)).alloc (aM #[ah aN 0 0,ah aN 0 0,ah aN 0 0,aa ag 0] 29))
 have mg:au W W X:=by rw[<- hX];exact((aR _ _).alloc (aV _) _).alloc (by simp) _
 have br:=jm hX;obtain⟨m,hm⟩:=(hg.bB mg).2;have ik:=zF y lo m pl cl X (hU.bB mg) hm;have HX:ax ((W.alloc (aM #[ah y.ad y.es.length y.cap,ah pl lo.length cl] 26)).alloc (aM #[ah aN 0 0,ah aN 0 0,ah aN 0 0,aa ag 0] 29)=X/\au W W X/\X.heap[W.heap.size+1]?=aO (aM #[ah aN 0 0,ah aN 0 0,ah aN 0 0,aa ag 0] 29)):=⟨hX,mg,br⟩
 rw[<- hX,h0]at ik;generalize (cO (y.es::lo.map (·.es)))=sl at ik;generalize y.es.length=yn at *;generalize lo.length=ln at *;have hnz:(80:aF)<(n:aF):=by omega
 clear hU hg mg br hm hX h0;go_enter func4,ntmps4;go_wp2_with (go_at_call 8;refine ik.mono ?_;clear ik;rintro r w3 ⟨p,c,rfl,_,_,_,eG,_⟩;rw[HX.1]at eG;have k3:w3.heap[W.heap.size+1]?=aO (aM #[ah aN 0 0,ah aN 0 0,ah aN 0 0,aa ag 0] 29):=(eG.block _ (aX.1 HX.2.2).1).trans HX.2.2;obtain⟨⟨d0,d1,d2,d3⟩,z0,z1,z2,z3⟩:=cK k3;have H3:ax (au W W w3/\w3.heap[W.heap.size+1]?=aO (aM #[ah aN 0 0,ah aN 0 0,ah aN 0 0,aa ag 0] 29)):=⟨Below.bK HX.2.1 eG,k3⟩;clear k3 eG);obtain⟨⟨x0,x1,x2,x3⟩,_⟩:=cK (AH H3.2 (ah aN 0 0) (ah aN 0 0) (ah aN 0 0) (aa ag 0));refine ba (v:=aL #[ar #[ah aN 0 0,ah aN 0 0,ah aN 0 0,aa ag 0],ah aN 0 0,aa ag 5]) (by simp[results,results4,go_sem,x0,x1,x2,x3]) rfl ?_;exact⟨rfl,CG H3.1 (by omega) _ _ _ _⟩
def Head(W:aw)(S:aE)(s0:Sy)(l:aB Cl)(k:aE)(v:az)(wr:aw):Prop:=∃ L row,oL W wr S (s0.run (l.take k)).1 L v (s0.run (l.take k)).2 row/\au W W wr/\wr.heap[W.heap.size+1]?=aO (aM #[ah aN 0 0,ah aN 0 0,ah aN 0 0,aa ag 0] 29)/\L.ex (W.heap.size+1)
theorem P7(a b c:az):#[a,b,c]++Array.replicate 32 (aj aN)=#[a,b,c,aj aN,aj aN,aj aN,aj aN,aj aN,aj aN,aj aN,aj aN,aj aN,aj aN,aj aN,aj aN,aj aN,aj aN,aj aN,aj aN,aj aN,aj aN,aj aN,aj aN,aj aN,aj aN,aj aN,aj aN,aj aN,aj aN,aj aN,aj aN,aj aN,aj aN,aj aN,aj aN]:=by kernel_rfl
theorem V5(y:Lay)(lo:aB Lay)(pl:aC aJ)(cl:aE)(pc:aC aJ)(cc:aE)(l:aB Cl)(W:aw)(hU:eZ W y lo pl cl)(hg:Gl W W)(h0:(bH (y.es::lo.map (·.es))).1=0)(hn:l.length<=80)(hC:vu W pc l)(hs:∀ c∈l,c.Small)(hF:∀ k,k<=l.length->((fJ y.es (lo.map (·.es))).run (l.take k)).1.Kg):ay aP 4 #[ar #[ah y.ad y.es.length y.cap,ah pl lo.length cl],ah pc l.length cc] W (vy ((fJ y.es (lo.map (·.es))).run l).1 ((fJ y.es (lo.map (·.es))).run l).2 W):=by
 obtain⟨X,hX⟩:=o7 ((W.alloc (aM #[ah y.ad y.es.length y.cap,ah pl lo.length cl] 26)).alloc (aM #[ah aN 0 0,ah aN 0 0,ah aN 0 0,aa ag 0] 29))
 have mg:au W W X:=by rw[<- hX];exact((aR _ _).alloc (aV _) _).alloc (by simp) _
 have br:=jm hX;have bu:=nB hX;have Sw:X.heap.size=W.heap.size+2:=by rw[<- hX];simp
 obtain⟨m,hm⟩:=(hg.bB mg).2;have ik:=zF y lo m pl cl X (hU.bB mg) hm;rw[h0]at ik;obtain⟨hz5,hzm,hzr⟩:=gT.1 h0;have h4:lo.length<=4:=by simpa using hz5
 have tG:=fun Y (hY:au W.heap.size W Y)=>EB y lo pl cl Y (hU.bB hY) (hzr _ (by simp)).len (fun x hx=>(hzr x.es (by simp;exact .inr ⟨x,hx,rfl⟩)).len) h4
 obtain⟨s0,Da⟩:=ee (fJ y.es (lo.map (·.es)))
 have HX:ax ((W.alloc (aM #[ah y.ad y.es.length y.cap,ah pl lo.length cl] 26)).alloc (aM #[ah aN 0 0,ah aN 0 0,ah aN 0 0,aa ag 0] 29)=X/\au W W X/\X.heap[W.heap.size+1]?=aO (aM #[ah aN 0 0,ah aN 0 0,ah aN 0 0,aa ag 0] 29)/\X.heap[W.heap.size]?=aO (aM #[ah y.ad y.es.length y.cap,ah pl lo.length cl] 26)):=⟨hX,mg,br,bu⟩
 have HC:ax (vu W pc l/\(∀ c∈l,c.Small)/\Gl W W/\(∀ k,k<=l.length->(s0.run (l.take k)).1.Kg)/\s0=fJ y.es (lo.map (·.es))):=⟨hC,hs,hg,by rw[Da];exact hF,Da⟩
 rw[<- Da];rw[<- hX]at ik;obtain⟨sl,xv⟩:=ee (cO (y.es::lo.map (·.es)))
 have HSL:ax (sl=cO (y.es::lo.map (·.es))):=xv;obtain⟨el,Uu⟩:=ee (lo.map (·.es))
 have HEL:ax (el=lo.map (·.es)):=Uu;rw[<- xv]at ik;obtain⟨sn,Y3⟩:=ee sl.length
 have FM:ax (sn=sl.length):=Y3;obtain⟨yn,ku⟩:=ee y.es.length
 obtain⟨ln,ka⟩:=ee lo.length
 obtain⟨n,Co⟩:=ee l.length
 have HN:ax (yn=y.es.length/\ln=lo.length/\n=l.length):=⟨ku,ka,Co⟩
 have Pe:ay aP 8 #[ar #[ah y.ad yn y.cap,ah pl ln cl]] ((W.alloc (aM #[ah y.ad yn y.cap,ah pl ln cl] 26)).alloc (aM #[ah aN 0 0,ah aN 0 0,ah aN 0 0,aa ag 0] 29)) (fun r w'=>∃ p c,r=.returned (aL #[ah p sn c,aa ag 0])/\ax (bI w' p sl/\sl.length<=c/\(p=aN->c=0)/\∀ b off s,p=aO ⟨b,off,s⟩->X.heap.size<=b)/\au X X w'):=by rw[ku,ka,Y3];refine ik.mono fun r w' ⟨p,c,e,a1,a2,a3,a4,a5⟩=>⟨p,c,e,⟨a1,a2,a3,fun b off s e=>(by have:=a5 b off s e;rw[HX.1]at this;exact this)⟩,by rw[HX.1]at a4;exact a4⟩
 rw[<- ku,<- ka]at tG HX;rw[<- ku,<- ka,<- Co];rw[<- Co]at hn;have hnz:¬ (80:aF)<(n:aF):=by omega
 clear hU hg mg br bu hm hX h0 hC hs hF ik hz5 hzm hzr h4 Da xv Uu Y3 ku ka Co;go_enter func4,ntmps4;go_wp2_with (first
  | (go_at_call 8;refine Pe.mono ?_;clear Pe;rintro r w3 ⟨ps,sc,rfl,U2,eG⟩;have k3:w3.heap[W.heap.size+1]?=aO (aM #[ah aN 0 0,ah aN 0 0,ah aN 0 0,aa ag 0] 29):=(eG.block _ (aX.1 HX.2.2.1).1).trans HX.2.2.1;have u3:w3.heap[W.heap.size]?=_:=(eG.block _ (aX.1 HX.2.2.2).1).trans HX.2.2.2;have c0:w3.cell? W=aO (ah y.ad yn y.cap):=(by simp[World.cell?,u3]);have c1:w3.cell? ⟨W,1,aN⟩=aO (ah pl ln cl):=(by simp[World.cell?,u3]);have xU:au W W w3:=Below.bK HX.2.1 eG;have H3:ax (w3.heap[W.heap.size+1]?=aO (aM #[ah aN 0 0,ah aN 0 0,ah aN 0 0,aa ag 0] 29)):=k3;have F3:X.heap.size<=w3.heap.size:=eG.size;clear k3 u3 eG)
  | (go_at_call 9;refine(tG _ xU).mono ?_;clear tG;rintro r w4 ⟨u,lo4,ul,uc,un,vn,rfl,H4⟩;have QG:ax (au W W w4/\w4.heap[W.heap.size+1]?=aO (aM #[ah aN 0 0,ah aN 0 0,ah aN 0 0,aa ag 0] 29)/\bI w4 ps sl/\X.heap.size<=w3/\X.heap.size<=w4):=⟨Below.bK xU H4.2.2.2.2.2.1,(H4.2.2.2.2.2.1.block _ (aX.1 H3.out).1).trans H3.out,U2.1.bB H4.2.2.2.2.2.1,F3,bc F3 H4.2.2.2.2.2.1.size⟩))
 have HH:ax (Head W w4 s0 l 0 (ah aN 0 0) (w4.alloc (aM #[ah u.ad un u.cap,ah ul vn uc,ah ps sn sc,aj aN,aj aN,aj aN,aj aN,aj aN,aj aN,aj aN,aj aN,aj aN,aj aN,aj aN,aj aN,aj aN,aj aN,aj aN,aj aN,aj aN,aj aN,aj aN,aj aN,aj aN,aj aN,aj aN,aj aN,aj aN,aj aN,aj aN,aj aN,aj aN,aj aN,aj aN,aj aN] 49))):=by
  obtain⟨r1,r2,r3,r4,r5,r6,r7⟩:=H4.out;have DU:cO (u.es::lo4.map (·.es))=sl:=by rw[r3,r4,HSL.out]
  have ach:=Wo (w:=w4) (aS:=W.heap.size) u lo4 ul uc ps sc (W.heap.size+1) X.heap.size QG.1.size (by omega) (by omega) QG.2.2.2.2 r5 ⟨fun b off s e=>bc QG.2.2.2.1 (r7.1 b off s e),fun b off s e=>bc QG.2.2.2.1 (r7.2.1 b off s e),fun x hx b off s e=>bc QG.2.2.2.1 (r7.2.2 x hx b off s e)⟩ (by rw[DU];exact QG.2.2.1) U2.2.2.2 (by rw[DU];exact U2.2.1) U2.2.2.1;rw[DU,<- r1,<- r2,<- FM.out,P7,r3,r4,<- HC.2.2.2.2]at ach;refine⟨_,[],⟨ach,kv.nil _ _,nofun,rfl,fun i an y h1=>by simp[Sy.run]at h1⟩,?_,?_,rfl⟩
  ·exact QG.1.alloc QG.1.size _
  ·exact(((Grown.refl w4).alloc _).below.block _ (aX.1 QG.2.1).1).trans QG.2.1
 obtain⟨S,hS⟩:=ee w4.heap.size
 rw[<- hS]at HH ⊢;generalize w4.alloc (aM #[ah u.ad un u.cap,ah ul vn uc,ah ps sn sc,aj aN,aj aN,aj aN,aj aN,aj aN,aj aN,aj aN,aj aN,aj aN,aj aN,aj aN,aj aN,aj aN,aj aN,aj aN,aj aN,aj aN,aj aN,aj aN,aj aN,aj aN,aj aN,aj aN,aj aN,aj aN,aj aN,aj aN,aj aN,aj aN,aj aN,aj aN,aj aN] 49)=W5 at HH ⊢;clear hS H4 QG H3 U2 c0 c1 xU;go_loopg [10,33] n (fun gg v i wr=>∃ k:aE,k<=n/\n-k<=gg/\i=aa ag k/\ax (Head W S s0 l k v wr))
 case atStart=>exact⟨0,bF _,by omega,rfl,HH.out⟩
 case round=>
  obtain⟨k,hk,oP,rfl,HI⟩:=hrel;by_cases gm:k<n
  ·have eN:(k:aF)<(n:aF):=by omega
   obtain⟨c,hc⟩:∃ c,l[k]?=aO c:=⟨_,aU (by have:=HN.2.2;omega)⟩
   have Am:=HC.2.1 c (bw hc);obtain⟨L,row,hP,xq,KX,Gk⟩:=HI.out;have nX:∃ b off,pc=aO ⟨b,off,aN⟩/\b<W.heap.size/\∀ j v,(OA c)[j]?=aO v->wr.cell? ⟨b,off+k*9+j,aN⟩=aO v:=by
    rcases HC.1 with e|⟨b,off,e,hb,hh⟩
    ·rw[e]at hc;simp at hc
    ·exact⟨b,off,e,hb,fun j v hv=>(xq.cell (p:=⟨b,off+k*9+j,aN⟩) hb).trans (hh k c hc j v hv)⟩
   obtain⟨b,off,rfl,xV,pj⟩:=nX;have W8:=HC.2.2.2.1 k (by have:=HN.2.2;omega);have eD:W.heap.size<=wr.heap.size:=xq.size;have Cw:ax (l.take (k+1)=l.take k++[c]):=by show _=_;rw[jv,hc];rfl
   obtain⟨ck,co,cf,cn,cm,cp,ct,cx,ca⟩:=c;have q0:wr.cell? ⟨b,off+k*9,aN⟩=aO (aa ag ck):=pj 0 _ rfl;have q1:wr.cell? ⟨b,off+k*9+1,aN⟩=aO (aa ag co):=pj 1 _ rfl;have q2:wr.cell? ⟨b,off+k*9+2,aN⟩=aO (aa ag cf):=pj 2 _ rfl;have q3:wr.cell? ⟨b,off+k*9+3,aN⟩=aO (aa ag cn):=pj 3 _ rfl;have q4:wr.cell? ⟨b,off+k*9+4,aN⟩=aO (aa ag cm):=pj 4 _ rfl;have q5:wr.cell? ⟨b,off+k*9+5,aN⟩=aO (ai cp):=pj 5 _ rfl;have q6:wr.cell? ⟨b,off+k*9+6,aN⟩=aO (ai ct):=pj 6 _ rfl;have q7:wr.cell? ⟨b,off+k*9+7,aN⟩=aO (ai cx):=pj 7 _ rfl;have q8:wr.cell? ⟨b,off+k*9+8,aN⟩=aO (aq ca):=pj 8 _ rfl;have fg:au wr wr (wr.alloc (aM #[aa ag ck,aa ag co,aa ag cf,aa ag cn,aa ag cm,ai cp,ai ct,ai cx,aq ca] 51)):=((Grown.refl wr).alloc _).below;have OU:=hP.bB fg;have Vu:=Ku OU.at' (HC.2.2.1.bB (Below.bK xq fg)) W8 ⟨ck,co,cf,cn,cm,cp,ct,cx,ca⟩ Am;simp only at Vu;have FL:ax (au W W (wr.alloc (aM #[aa ag ck,aa ag co,aa ag cf,aa ag cn,aa ag cm,ai cp,ai ct,ai cx,aq ca] 51))/\(wr.alloc (aM #[aa ag ck,aa ag co,aa ag cf,aa ag cn,aa ag cm,ai cp,ai ct,ai cx,aq ca] 51)).heap[W.heap.size+1]?=aO (aM #[ah aN 0 0,ah aN 0 0,ah aN 0 0,aa ag 0] 29)/\oL W (wr.alloc (aM #[aa ag ck,aa ag co,aa ag cf,aa ag cn,aa ag cm,ai cp,ai ct,ai cx,aq ca] 51)) S (s0.run (l.take k)).1 L _ (s0.run (l.take k)).2 row/\L.ex (W.heap.size+1)):=⟨Below.bK xq fg,(fg.block _ (aX.1 KX).1).trans KX,OU,Gk⟩
   have tF:ax (s0.run (l.take (k+1))=(((s0.run (l.take k)).1.anL ⟨ck,co,cf,cn,cm,cp,ct,cx,ca⟩).1,(s0.run (l.take k)).2++[((s0.run (l.take k)).1.anL ⟨ck,co,cf,cn,cm,cp,ct,cx,ca⟩).2])):=by show _=_;rw[Cw.out,JE]
   obtain⟨s1,xu⟩:=ee (((s0.run (l.take k)).1.anL ⟨ck,co,cf,cn,cm,cp,ct,cx,ca⟩).1)
   obtain⟨an,abe⟩:=ee (((s0.run (l.take k)).1.anL ⟨ck,co,cf,cn,cm,cp,ct,cx,ca⟩).2)
   rw[<- xu,<- abe]at Vu tF;have Lg:row.length<=80:=by
    have:=hP.len;rw[GL]at this;have h2:(l.take k).length<=k:=by simp;omega
    omega
   clear xu abe hP OU xq KX pj W8 Am hc fg xV;have vh:True:=trivial;go_wp2_with (first
    | (go_at_call 10;refine Vu.mono ?_;clear Vu;intro r w6 hD;obtain⟨p6,c6,n6,rfl,HD⟩:=Im hD;clear hD;have Yq:=FL.2.2.1.yL HD.out;have HA6:ax _:=Yq;have zT:ax (kv w6 W _ row/\W.heap.size<=w6/\au W W w6/\w6.heap[W.heap.size+1]?=aO (aM #[ah aN 0 0,ah aN 0 0,ah aN 0 0,aa ag 0] 29)):=(by obtain⟨z1,z2,z3,_⟩:=Yq;obtain⟨_,L6,_,_,_,_,_,hk6,_⟩:=HD.out;exact⟨z3,bc eD (bc (by simp) z2),FL.1.trans z1,(hk6.block _ (aX.1 FL.2.1).1 (uk FL.2.2.1.at' FL.2.1 (by decide) (by decide) (by decide))).trans FL.2.1⟩);clear Yq)
    | (at_builtin;clear vh;refine CE w6 ⟨an.err,an.n,an.text,p6,n6,c6⟩ rfl _ _ rfl W _ row rfl zT.1 (by omega) zT.2.1 rfl ?_;intro v7 w7 KT hs7 VE J7 ie;have HH7:ax (Head W S s0 l (k+1) v7 w7):=(by obtain⟨z1,z2,z3,z4⟩:=HA6.out;obtain⟨L7,hx7,Qr⟩:=z4 v7 w7 KT hs7 VE J7;refine⟨L7,_,by rw[tF.out];exact Qr,zT.2.2.1.trans ie,(VE _ (aX.1 zT.2.2.2).1 (fun e=>?_)).trans zT.2.2.2,hx7 _ FL.2.2.2⟩;obtain⟨_,eI,hh⟩:=zT.1.own e;rw[zT.2.2.2]at hh;injection hh with hh;injection hh with _ hh _;exact aG hh (by decide));clear KT hs7 VE J7 ie HA6 zT))
   go_roundg (n-(k+1))
   case measure=>omega
   case rel=>exact⟨k+1,by omega,by omega,by go_num,HH7.out⟩
  ·have eN:¬ (k:aF)<(n:aF):=by omega
   obtain rfl:k=n:=by omega
   have HT:ax (l.take k=l):=by show _=_;rw[HN.2.2];exact gh
   have hI:=HI.out;rw[Head,HT.out]at hI;obtain⟨L,row,hP,xq,KX,Gk⟩:=hI;obtain⟨pa,na,ac,hv,F4,BO,RS,OY⟩:=hP.anO;subst hv;have HAA:ax (na=(s0.run l).2.length/\na<=ac/\(pa=aN->ac=0)/\sO wr pa (s0.run l).2):=⟨F4,BO,RS,OY⟩
   clear F4 BO RS OY;go_wp2;obtain⟨F4,BO,RS,OY⟩:=HAA.out;obtain⟨d0,d1,d2⟩:=hP.at'.cells;have hfl:=wH (hP.at'.bB (aR _ _).drew);obtain⟨sf,QA⟩:=ee ((s0.run l).1)
   obtain⟨al,E4⟩:=ee ((s0.run l).2)
   rw[<- QA]at hP hfl d2;rw[<- E4]at hP F4 OY;have HSF:ax (sf=(s0.run l).1/\al=(s0.run l).2):=⟨QA,E4⟩
   obtain⟨e0,Ut⟩:=ee L.y.es.length
   obtain⟨e1,DX⟩:=ee L.lo.length
   obtain⟨e2,Eh⟩:=ee sf.bA.length
   rw[<- Ut]at d0;rw[<- DX]at d1;rw[<- Eh]at d2;have HP:ax (oL W wr S sf L (ah pa na ac) al row/\au W W wr/\wr.heap[W.heap.size+1]?=aO (aM #[ah aN 0 0,ah aN 0 0,ah aN 0 0,aa ag 0] 29)/\na=al.length/\na<=ac/\(pa=aN->ac=0)/\sO wr pa al/\e0=L.y.es.length/\e1=L.lo.length/\e2=sf.bA.length/\L.ex (W.heap.size+1)):=⟨hP,xq,KX,F4,BO,RS,OY,Ut,DX,Eh,Gk⟩
   have K8:ay aP 11 #[aj (aO S)] wr.drew (fun r w'=>∃ pf nf cf,r=.returned (ah pf nf cf)/\nf=sf.cr.length/\au wr wr w'):=hfl.mono fun r w' ⟨⟨v,e,hr⟩,hB⟩=>by obtain⟨p,c,hv,_,_,_,_⟩:=hr.form;exact⟨p,_,c,by rw[e,hv],by simp[kU,Sy.cr],((aR _ _).drew).trans hB⟩
   have lS:S<wr.heap.size:=hP.at'.lt;clear hP xq KX F4 BO RS OY Ut DX Eh hfl QA E4 HI Gk;go_region_held3 (fun w'=>w'.cell? S=aO (ah L.y.ad e0 L.y.cap)/\w'.cell? ⟨S,1,aN⟩=aO (ah L.pl e1 L.cl)/\w'.cell? ⟨S,2,aN⟩=aO (ah L.ps e2 L.sc)) (go_keep) (first|(go_at_call 11;refine K8.mono ?_;clear K8;rintro r w8 ⟨pf,nf,cf,rfl,C7,Ee⟩;have z0:=(Ee.cell (p:=S) lS).trans d0;have z1:=(Ee.cell (p:=⟨S,1,aN⟩) lS).trans d1;have z2:=(Ee.cell (p:=⟨S,2,aN⟩) lS).trans d2;have k8:w8.heap[W.heap.size+1]?=aO (aM #[ah aN 0 0,ah aN 0 0,ah aN 0 0,aa ag 0] 29):=(Ee.block _ (aX.1 HP.2.2.1).1).trans HP.2.2.1;obtain⟨⟨x0,x1,x2,x3⟩,y0,y1,y2,y3⟩:=cK k8;have H8:ax (au wr wr w8/\w8.heap[W.heap.size+1]?=aO (aM #[ah aN 0 0,ah aN 0 0,ah aN 0 0,aa ag 0] 29)/\nf=sf.cr.length):=⟨Ee,k8,C7⟩;have nS:¬ S=W.heap.size+1:=(fun e=>(uk HP.1.at' HP.2.2.1 (by decide) (by decide) (by decide)) (.inl e.symm));have nS2:¬ W.heap.size+1=S:=(fun e=>nS e.symm);clear k8 Ee C7));all_goals
    obtain⟨⟨x0,x1,x2,x3⟩,_⟩:=cK (AH H8.2.1 (ah L.y.ad e0 L.y.cap) (ah L.pl e1 L.cl) (ah L.ps e2 L.sc) (aa ag nf));go_wp2;refine ba (v:=aL #[ar #[ah L.y.ad e0 L.y.cap,ah L.pl e1 L.cl,ah L.ps e2 L.sc,aa ag nf],ah pa na ac,aa ag 0]) (by simp[results,results4,go_sem,x0,x1,x2,x3]) rfl ?_;obtain⟨hP,xq,KX,F4,BO,RS,OY,Ut,DX,Eh,Gk⟩:=HP.out;obtain⟨Ee,Ej,C7⟩:=H8.out;have hK:cA (fun b=>b=W.heap.size+1) w8 ((((w8.setCell ⟨↑W+1,0,aN⟩ (ah L.y.ad e0 L.y.cap)).setCell ⟨↑W+1,1,aN⟩ (ah L.pl e1 L.cl)).setCell ⟨↑W+1,2,aN⟩ (ah L.ps e2 L.sc)).setCell ⟨↑W+1,3,aN⟩ (aa ag nf)):=(((cA.set (sp:=fun b=>b=W.heap.size+1) rfl _ _ _).trans (cA.set (sp:=fun b=>b=W.heap.size+1) rfl _ _ _)).trans (cA.set (sp:=fun b=>b=W.heap.size+1) rfl _ _ _)).trans (cA.set (sp:=fun b=>b=W.heap.size+1) rfl _ _ _);have hP8:=hP.bB Ee;obtain⟨L',Yi,f1,f2,f3,f4,f5,f6⟩:=hP8.write Gk Ej (uk hP8.at' Ej (by decide) (by decide) (by decide)) hK;obtain⟨pa',na',ac',yE,b1,b2,b3,b4⟩:=Yi.anO;injection yE with v1 v2 v3
    subst v1 v2 v3;have hd:=Yi.at'.data.now;rw[<- HSF.1,<- HSF.2];rw[<- f1]at Ut;rw[<- f2]at DX;refine⟨L.y,L.lo,L.pl,L.cl,L.ps,L.sc,e0,e1,e2,nf,pa,na,ac,rfl,CG (Below.bK xq Ee) (by omega) _ _ _ _,by rw[Ut,f1],by rw[DX,f2],Eh,C7,hP.at'.up,hP.at'.low,?_,?_,?_,hP.at'.sJ,b1,b2,b3,b4⟩
    ·have:=hd.un
     rw[f1,f2,f3,f4]at this;exact this
    ·have:=hd.bA
     rw[f5]at this;exact this
    ·rw[Eh];exact hP.at'.sI
namespace PM
def vx(bA:aB bP)(p:aA):Prop:=p.data.toList=[]\/∃ e,bW bA p.data.toList=aO e/\e.bE=1
def NX(bA:aB bP)(f:Fl):Prop:=f.text.size<=100/\f.b9.length<=40/\vx bA f.bm
structure Sy.anJ (s:Sy):Prop where
 un:(bH s.all).1=0
 num:∀ n j,s.fds n=aO j->n<32
 v1:∀ n j,s.fds n=aO j->j<s.bJ.length
 v2:∀ (j:aE) (op:qI),s.bJ[j]?=aO op->op.cM<s.bh.length
 pos:∀ n j op f,s.ia n j op f->0<=op.pos/\op.pos<=1000
 tY:∀ n j op f,s.ia n j op f->NX s.bA f
theorem qj(s:Sy):∀ (k i:aE),i∈s.eH k->∃ n j,n<k/\s.fds n=aO j/\s.anK j=i
 | 0,i,h=>by simp[Sy.eH]at h
 | k+1,i,h=>by
  rw[Sy.eH]at h;split at h
  ·obtain⟨n,j,h1,h2⟩:=qj s k i h
   exact⟨n,j,by omega,h2⟩
  ·rename_i j hj
   unfold BJ at h;split at h
   ·obtain⟨n,j,h1,h2⟩:=qj s k i h
    exact⟨n,j,by omega,h2⟩
   ·rcases bZ.1 h with h|h
    ·obtain⟨n,j,h1,h2⟩:=qj s k i h
     exact⟨n,j,by omega,h2⟩
    ·simp at h
     exact⟨k,j,by omega,hj,h.symm⟩
theorem Bh(s:Sy):∀ (k:aE) {n j:aE},n<k->s.fds n=aO j->s.anK j∈s.eH k
 | 0,n,j,h,_=>by omega
 | k+1,n,j,h,hj=>by
  rw[Sy.eH];by_cases e:n=k
  ·subst e
   rw[hj];simp only;unfold BJ;split
   ·rename_i hm;exact hm
   ·simp
  ·have ih:=Bh s k (n:=n) (j:=j) (by omega) hj
   split
   ·exact ih
   ·unfold BJ
    split
    ·exact ih
    ·exact bZ.2 (.inl ih)
theorem Sy.anJ.leads{s:Sy}(h:s.anJ)(hi:i∈s.cr)(hf:s.bh[i]?=aO f):∃ n j op,s.ia n j op f/\op.cM=i:=by
 obtain⟨n,j,_,hj,e⟩:=qj s 32 i hi;have hl:=h.v1 n j hj;have ho:s.bJ[j]?=aO s.bJ[j]:=aU hl;have e:s.bJ[j].cM=i:=by rw[Sy.anK,ho]at e;simpa using e
 exact⟨n,j,_,⟨hj,ho,by rw[e];exact hf⟩,e⟩
theorem Sy.ia.cr{s:Sy}(h:s.anJ)(hl:s.ia n j op f):op.cM∈s.cr:=by have:=Bh s 32 (h.num n j hl.l6) hl.l6;rw[Sy.anK,hl.gX]at this;show op.cM∈s.eH 32;simpa using this
end PM
theorem Ih{l:aB aD}(h:anI l=aI)(e:p.data.toList=l):p.size<=80:=by rw[<- e]at h;exact fG h
theorem MI{b:Bool}(h:dv e b=0):e.text.size<=100:=by
 unfold dv at h;split at h
 ·omega
 ·split at h
  ·omega
  ·split at h
   ·omega
   ·omega
theorem Bd(hr:du aH bA)(h:vx bA p):p.size<=80:=by
 by_cases e:p.data.toList=[]
 ·rw[fV (a:=p) (b:=⟨#[]⟩) e];decide
 ·rcases h with h|⟨x,hx,_⟩
  ·exact aG h e
  ·obtain⟨h1,h2⟩:=dK e hx
   exact Ih (hr.anI h1) h2.symm
theorem wj{s:Sy}(h:NX s.bA f):(s.cQ f).size<=100:=by
 unfold Sy.cQ;split
 ·exact h.1
 ·rename_i e
  rcases h.2.2 with h|⟨x,hx,_⟩
  ·exact aG h e
  ·rw[hx]
   exact MI ((cY s.all).each x (dK e hx).1)
theorem PM.Sy.anJ.fine{s:Sy}(h:s.anJ):s.Kg:=by
 have hr:du aH s.bA:=cY s.all;refine⟨h.un,fun n j op f hl=>?_,fun i hi f hf=>?_⟩
 ·have h1:=h.pos n j op f hl
  have h2:=h.tY n j op f hl;exact⟨h1.1,h1.2,Bd hr h2.2.2,wj h2,by have:=h2.2.1;omega⟩
 ·obtain⟨n,j,op,hl,_⟩:=h.leads hi hf
  exact Bd hr (h.tY n j op f hl).2.2
section
variable {s:Sy}
theorem PM.Sy.anJ.union(h:s.anJ)(h0:(bH (up::cq)).1=0)(hp:∀ p,vx s.bA p->vx (cO (up::cq)) p):(s.di up cq).anJ:=
 ⟨h0,h.num,h.v1,h.v2,fun n j op f hl=>h.pos n j op f ⟨hl.l6,hl.gX,hl.hfl⟩,fun n j op f hl=>by
  have:=h.tY n j op f ⟨hl.l6,hl.gX,hl.hfl⟩;exact⟨this.1,this.2.1,hp _ this.2.2⟩⟩
theorem Ti(hr:du aH bA)(he:e.p≠[])(hk:e.bE=1\/bW bA e.p=aN)(h:vx bA p):vx (kM bA e) p:=by
 rcases h with h|⟨x,hx,tJ⟩
 ·exact .inl h
 ·by_cases e1:p.data.toList=e.p
  ·rcases hk with hk|hk
   ·right;rw[e1];exact⟨e,xC hr.anF he,hk⟩
   ·rw[e1,hk]at hx;cases hx
  ·right;rw[CT hr.anF e1];exact⟨x,hx,tJ⟩
theorem PM.Sy.anJ.put(h:s.anJ)(hc:dg (bH s.all).1 (dW s.bA e) (cZ s.up e).length=0)(hk:e.bE=1\/bW s.bA e.p=aN):(s.di (cZ s.up e) s.cq).anJ/\cO (cZ s.up e::s.cq)=kM s.bA e:=by obtain⟨h0,h1⟩:=oB (show dg (bH (s.up::s.cq)).1 _ _=0 from hc);have hp:=(mF.1 hc).2.1;have hne:e.p≠[]:=gM (dX (zz hp).2.1);refine⟨h.union h0 (fun p hp=>?_),h1⟩;rw[h1];exact Ti (cY s.all) hne hk hp
theorem PM.Sy.anJ.add(h:s.anJ){way:aA}{bE:aF}{text:aA}(he:s.mB way bE text=0):(s.di (cZ s.up (s.nu way bE text)) s.cq).anJ:=by
 unfold Sy.mB at he;split at he
 ·rename_i h1;exact aG he h1
 ·split at he
  ·cases he
  ·rename_i h2
   refine(h.put he (.inr ?_)).1;have e:(s.nu way bE text).p=(dV s.bA aH way).2:=by simp[Sy.nu,bP.p,fU]
   rw[e];simpa using h2
theorem PM.Sy.anJ.bh(h:s.anJ){g:Fl->Fl}(h0:(bH (up::cq)).1=0)(hg:∀ f,NX s.bA f->(s.cQ f).size<=100->NX (cO (up::cq)) (g f)):((s.jS g s.cr).di up cq).anJ:=by
 have hb:∀ n j op f,((s.jS g s.cr).di up cq).ia n j op f->∃ f0,s.ia n j op f0/\f=g f0:=fun n j op f hl=>by
  have hf:(s.bh.mapIdx fun i f=>if i∈s.cr then g f else f)[op.cM]?=aO f:=hl.hfl;rw[bO]at hf;cases O2:s.bh[op.cM]? with
  | none=>rw[O2]at hf;cases hf
  | some f0=>
   rw[O2]at hf;have Sd:s.ia n j op f0:=⟨hl.l6,hl.gX,O2⟩
   simp only[dF,aY (Sd.cr h),dt]at hf;exact⟨f0,Sd,hf.symm⟩
 refine⟨h0,h.num,h.v1,fun j op ho=>?_,fun n j op f hl=>?_,fun n j op f hl=>?_⟩
 ·have:=h.v2 j op ho
  simpa[Sy.jS,Sy.di]using this
 ·obtain⟨f0,Sd,_⟩:=hb n j op f hl
  exact h.pos n j op f0 Sd
 ·obtain⟨f0,Sd,e⟩:=hb n j op f hl
  have h2:=h.tY n j op f0 Sd;rw[e];exact hg f0 h2 (wj h2)
theorem PM.Sy.anJ.remove(h:s.anJ){bE:aF}{way:aA}(he:s.pE bE way=0):(s.Et way).anJ:=by
 unfold Sy.pE at he;split at he
 ·rename_i h1;exact aG he h1
 split at he
 ·cases he
 split at he
 ·cases he
 split at he
 ·cases he
 split at he
 ·cases he
 rename_i hq;have BP:(fU (s.kH way)).data.toList=s.kH way:=by simp[fU]
 have Eh:dg (bH (s.up::s.cq)).1 (eP (cO (s.up::s.cq)) (fU (s.kH way)).data.toList) (ec s.up (bG s.cq).2 (fU (s.kH way))).length=0:=by rw[BP];exact he
 obtain⟨h0,h1⟩:=wV Eh;have hr:du aH s.bA:=cY s.all;unfold Sy.Et Sy.anN;refine h.bh h0 (fun f hf ht=>?_);rw[h1,Sy.oG];split
 ·exact⟨ht,hf.2.1,.inl rfl⟩
 ·rename_i hn
  refine⟨hf.1,hf.2.1,?_⟩;rcases hf.2.2 with e|⟨x,hx,tJ⟩
  ·exact .inl e
  ·right
   rw[show cO (s.up::s.cq)=s.bA from rfl,CU hr.anF hn];exact⟨x,hx,tJ⟩
end
theorem Q9(a p:aA)(k:aE):(a++p.extract k p.size).data.toList=a.data.toList++p.data.toList.drop k:=by rw[show(a++p.extract k p.size).data.toList=a.data.toList++(p.extract k p.size).data.toList from by simp,yz]
theorem CH{a b:aA}(e:a.data.toList=b.data.toList)(ha:a.data.toList≠[])(h:p.data.toList=a.data.toList\/anG p a.data.toList=aI):b++p.extract a.size p.size=p:=by
 apply fV;have hs:a.size=a.data.toList.length:=ix a;rw[Q9,<- e,hs];rcases h with h|h
 ·rw[h];simp
 ·obtain⟨r,hr⟩:=(eB _ _ ha).1 h
  rw[hr];simp
theorem tC{a:aB aD}(h:a≠[]):anG [] a=aH:=by
 cases hu:anG [] a with
 | false=>rfl
 | true=>obtain⟨r,hr⟩:=(eB _ _ h).1 hu;simp at hr
section
variable {s:Sy}
theorem PM.Sy.anJ.rename(h:s.anJ){a b:aA}(he:s.n9 a b=0):(s.uM a b).anJ:=by
 unfold Sy.n9 at he;split at he
 ·rename_i h1;exact aG he h1
 split at he
 ·rename_i h1;exact aG he h1
 split at he
 ·cases he
 rename_i hq;have ha:s.kH a≠[]:=fun e=>hq (.inl e)
 have hb:s.kH b≠[]:=fun e=>hq (.inr e)
 obtain⟨h0,h1,h2⟩:=AD he;have hm:=(mF.1 he).2.1;have da:(fU (s.kH a)).data.toList=s.kH a:=by simp[fU]
 have db:(fU (s.kH b)).data.toList=s.kH b:=by simp[fU]
 have hr:du aH s.bA:=cY s.all;unfold Sy.uM Sy.anS;by_cases e:(fU (s.kH a)).data.toList=(fU (s.kH b)).data.toList
 ·rw[aY e]
  unfold Sy.carry;refine h.bh h0 (fun f hf ht=>?_);rw[h1 e];have:jM (fU (s.kH a)) (fU (s.kH b)) f=f:=by
   unfold jM;split
   ·rename_i hc
    rw[CH e (by rw[da];exact ha) hc]
   ·rfl
  rw[this];exact hf
 ·rw[aW e]
  obtain⟨hp,hw⟩:=h2 e;have lH:=wQ hm e;have hR:=lH.Mm hp hw;have abl:((s.anN (fU (s.kH b))).carry (fU (s.kH a)) (fU (s.kH b)))=s.jS (fun f=>jM (fU (s.kH a)) (fU (s.kH b)) (s.oG (fU (s.kH b)) f)) s.cr:=by
   have hrr:(s.anN (fU (s.kH b))).cr=s.cr:=ym rfl rfl 32;unfold Sy.carry;rw[hrr];unfold Sy.anN Sy.jS;simp only[List.mapIdx_mapIdx];congr 1;apply dz;intro k;rw[bO,bO];cases s.bh[k]? with
   | none=>rfl
   | some x=>
    simp only[dF,Function.comp];by_cases hk:k∈s.cr
    ·simp[hk]
    ·simp[hk]
  rw[abl];refine h.bh h0 (fun f hf ht=>?_);have iR:∀ g:Fl,g.bm.data.toList=[]->jM (fU (s.kH a)) (fU (s.kH b)) g=g:=fun g hg=>by
   unfold jM;rw[aW];rintro(h|h)
   ·rw[hg,da]at h;exact ha h.symm
   ·rw[hg,da,tC ha]at h;cases h
  unfold Sy.oG;split
  ·rw[iR _ rfl]
   exact⟨ht,hf.2.1,.inl rfl⟩
  ·rename_i hn
   rcases hf.2.2 with e0|⟨x,hx,tJ⟩
   ·rw[iR _ e0];exact⟨hf.1,hf.2.1,.inl e0⟩
   ·by_cases e0:f.bm.data.toList=[]
    ·rw[iR _ e0];exact⟨hf.1,hf.2.1,.inl e0⟩
    ·obtain⟨yc,D3⟩:=dK e0 hx
     have yG:x.bm=f.bm:=fV D3;unfold jM;split
     ·rename_i hc
      refine⟨hf.1,hf.2.1,.inr ⟨ma (fU (s.kH a)) (fU (s.kH b)) x,?_,tJ⟩⟩;have hi:jC (fU (s.kH a)).data.toList x=aI:=by
       unfold jC;rcases hc with hc|hc
       ·simp[D3,hc]
       ·simp[D3,hc]
      have hg:=lH.goes hp yc hi;have hpp:(ma (fU (s.kH a)) (fU (s.kH b)) x).p=(fU (s.kH b)++f.bm.extract (fU (s.kH a)).size f.bm.size).data.toList:=by rw[<- yG];rfl
      rw[<- hpp];exact kW hR.anF hg (hR.ne hg)
     ·rename_i hc
      refine⟨hf.1,hf.2.1,.inr ⟨x,?_,tJ⟩⟩;have hi:jC (fU (s.kH a)).data.toList x=aH:=by
       unfold jC;rw[D3];cases hd:(decide (f.bm.data.toList=(fU (s.kH a)).data.toList) || anG f.bm (fU (s.kH a)).data.toList)with
       | false=>rfl
       | true=>
        rcases jx.1 hd with hd|hd
        ·exact aG (.inl (by simpa using hd)) hc
        ·exact aG (.inr hd) hc
      have hg:=lH.stays hp yc (by rw[D3];exact hn) hi;rw[<- D3];exact kW hR.anF hg (hR.ne hg)
end
theorem KP(hr:du aH bA){a n:aB aD}{r:aB (aB aD)}{h:aE}(ha:((bW bA a).getD cR).bE≠3):((bW bA (qE bA aI a n r h).2.1).getD cR).bE≠3:=by
 unfold qE;split
 ·exact ha
 ·rename_i hd
  split
  ·show((bW bA (bU a)).getD cR).bE≠3
   have hd:eL bA a=0:=by simpa using hd
   rcases oy.1 hd with e|⟨d,Z4,sY,_,_⟩
   ·rw[e,show bU []=[]from by decide,iE];decide
   ·rcases hr.dir d Z4 with e|⟨d',h1,h2,h3⟩
    ·rw[<- sY,e,iE];decide
    ·rw[<- sY,<- h2,kW hr.anF h1 (hr.ne h1)]
     show d'.bE≠3;rw[h3];decide
  ·split
   ·split
    ·exact ha
    ·split
     ·exact ha
     ·show((bW bA (if _ then[]else a)).getD cR).bE≠3
      split
      ·rw[iE];decide
      ·exact ha
   ·rename_i hk
    intro e;exact hk ⟨e,.inr rfl⟩
theorem zj{bA:aB bP}(hr:du aH bA):∀ (g:aE) (a:aB aD) (l:aB (aB aD)) (h:aE),((bW bA a).getD cR).bE≠3->((bW bA (nK bA aI g a l h).2).getD cR).bE≠3
 | 0,a,l,h,ha=>by rw[nK];exact ha
 | g+1,a,[],h,ha=>by rw[nK];exact ha
 | g+1,a,n::r,h,ha=>by
  rw[nK];split
  ·exact zj hr g _ _ _ (KP hr ha)
  ·rw[iE];decide
theorem I6(hr:du aH bA)(way:aB aD):((bW bA (dV bA aI way).2).getD cR).bE≠3:=by
 unfold dV;split
 ·rw[iE];decide
 split
 ·rw[iE];decide
 split
 ·rw[iE];decide
 ·exact zj hr _ _ _ _ (by rw[iE];decide)
theorem Ls(hr:du aH bA)(he:e∈bA):e.bE=1\/e.bE=2\/e.bE=3:=by
 have h:=hr.each e he;unfold dv at h;split at h
 ·omega
 ·rename_i h1
  simp at h1;by_cases a:e.bE=1
  ·exact .inl a
  by_cases b:e.bE=2
  ·exact .inr (.inl b)
  by_cases c:e.bE=3
  ·exact .inr (.inr c)
  exact aG (h1 a c) b
section
variable {s:Sy}
theorem PM.Sy.anJ.ready(h:s.anJ){cp:aA}(he:s.kE (s.tL cn cp).2 cn=0):(s.di (s.jD (s.tL cn cp).2 cn) s.cq).anJ/\vx (s.di (s.jD (s.tL cn cp).2 cn) s.cq).bA (fU (s.tL cn cp).2):=by
 have hr:du aH s.bA:=cY s.all;have hl:(bits BinOp.and IntKind.i64 cn 16 == 0)=aI->((bW s.bA (s.tL cn cp).2).getD cR).bE≠3:=fun OS=>by unfold Sy.tL;rw[OS];exact I6 hr _
 generalize (s.tL cn cp).2=q at he hl ⊢;have BP:(fU q).data.toList=q:=by simp[fU]
 unfold Sy.kE at he;split at he
 ·cases he
 split at he
 ·cases he
 rename_i h1 h2;split at he
 ·cases he
 rename_i h3;unfold Sy.jD;split at he
 ·rename_i has
  rw[aY has];refine⟨h,?_⟩;have OS:(bits BinOp.and IntKind.i64 cn 16 == 0)=aI:=by
   cases hb:(bits BinOp.and IntKind.i64 cn 16 == 0)with
   | true=>rfl
   | false=>exact aG ⟨has.1,by simpa[bne]using hb⟩ h2
  cases hg:bW s.bA q with
  | none=>have:=has.1;rw[hg]at this;cases this
  | some e=>
   have hl:=hl OS;rw[hg]at hl h3;have hl:e.bE≠3:=hl;have h3:¬ e.bE=2:=fun e2=>h3 ⟨rfl,e2⟩
   by_cases hq:q=[]
   ·rw[hq,iE]at hg;cases hg;exact aG rfl h3
   ·right
    rw[BP];refine⟨e,hg,?_⟩;rcases Ls hr (dK hq hg).1 with k|k|k
    ·exact k
    ·exact aG k h3
    ·exact aG k hl
 ·rename_i has
  rw[aW has];obtain⟨g1,g2⟩:=h.put he (.inl rfl);refine⟨g1,.inr ⟨⟨fU q,1,⟨#[]⟩,aH⟩,?_,rfl⟩⟩;have hne:(⟨fU q,1,⟨#[]⟩,aH⟩:bP).p≠[]:=gM (dX (zz (mF.1 he).2.1).2.1);show bW (cO (cZ s.up ⟨fU q,1,⟨#[]⟩,aH⟩::s.cq)) (fU q).data.toList=_;rw[g2];exact xC hr.anF hne
theorem PM.Sy.anJ.anR(h:s.anJ){q:aA}{use:aF}(hn:n<32)(hq:vx s.bA q):(s.anR q use n).anJ:=by
 have key:∀ (s1:Sy) (i:aE),s1.anJ->(∃ f,s1.bh[i]?=aO f/\NX s1.bA f)->((s1.kP ⟨i,use,0⟩).dL n (aO s1.bJ.length)).anJ:=fun s1 i g ⟨f0,O2,A1⟩=>by
  have hi:=(aQ.1 O2).1;have hb:∀ m j op f,((s1.kP ⟨i,use,0⟩).dL n (aO s1.bJ.length)).ia m j op f->(op=⟨i,use,0⟩/\f=f0)\/s1.ia m j op f:=fun m j op f hl=>by
   have h1:(if m=n then aO s1.bJ.length else s1.fds m)=aO j:=hl.l6;have h2:(s1.bJ++[⟨i,use,0⟩])[j]?=aO op:=hl.gX;have h3:s1.bh[op.cM]?=aO f:=hl.hfl;by_cases e:m=n
   ·rw[aY e]at h1
    cases h1;rcases lh h2 with⟨_,e2⟩|⟨hl,_⟩
    ·left
     subst e2;exact⟨rfl,by rw[O2]at h3;cases h3;rfl⟩
    ·omega
   ·rw[aW e]at h1
    have hj:=g.v1 m j h1;rcases lh h2 with⟨e2,_⟩|⟨_,h2⟩
    ·omega
    ·exact .inr ⟨h1,h2,h3⟩
  refine⟨g.un,fun m j hm=>?_,fun m j hm=>?_,fun j op ho=>?_,fun m j op f hl=>?_,fun m j op f hl=>?_⟩
  ·have h1:(if m=n then aO s1.bJ.length else s1.fds m)=aO j:=hm
   by_cases e:m=n
   ·omega
   ·rw[aW e]at h1;exact g.num m j h1
  ·have h1:(if m=n then aO s1.bJ.length else s1.fds m)=aO j:=hm
   show j<(s1.bJ++[_]).length;simp;by_cases e:m=n
   ·rw[aY e]at h1;cases h1;omega
   ·rw[aW e]at h1;have:=g.v1 m j h1;omega
  ·rcases lh (show(s1.bJ++[⟨i,use,0⟩])[j]?=aO op from ho)with⟨_,e⟩|⟨_,ho⟩
   ·rw[e];exact hi
   ·exact g.v2 j op ho
  ·rcases hb m j op f hl with⟨e,_⟩|hl
   ·rw[e];exact⟨mn _,by show(0:aF)<=1000;decide⟩
   ·exact g.pos m j op f hl
  ·rcases hb m j op f hl with⟨_,e⟩|hl
   ·rw[e];exact A1
   ·exact g.tY m j op f hl
 unfold Sy.anR Sy.anP;cases ho:s.um q with
 | some i=>
  have hi:i∈s.cr:=gv ho;have gm:i<s.bh.length:=by obtain⟨m,j,_,hj,e⟩:=qj s 32 i hi;have hl:=h.v1 m j hj;have h2:=h.v2 j _ (aU hl);rw[Sy.anK,aU hl]at e;simp at e;omega
  obtain⟨m,j,op,hl,_⟩:=h.leads hi (aU gm);exact key s i h ⟨_,aU gm,h.tY m j op _ hl⟩
 | none=>
  have g:(s.kg ⟨q,⟨#[]⟩,[]⟩).anJ:=by
   have hb:∀ m j op f,(s.kg ⟨q,⟨#[]⟩,[]⟩).ia m j op f->s.ia m j op f:=fun m j op f hl=>by
    refine⟨hl.l6,hl.gX,?_⟩;have h2:=h.v2 j op hl.gX;rcases lh (show(s.bh++[_])[op.cM]?=aO f from hl.hfl)with⟨e,_⟩|⟨_,h3⟩
    ·omega
    ·exact h3
   exact⟨h.un,h.num,h.v1,fun j op ho=>by have:=h.v2 j op ho;show op.cM<(s.bh++[_]).length;simp;omega,fun m j op f hl=>h.pos m j op f (hb m j op f hl),fun m j op f hl=>h.tY m j op f (hb m j op f hl)⟩
  refine key (s.kg ⟨q,⟨#[]⟩,[]⟩) s.bh.length g ⟨⟨q,⟨#[]⟩,[]⟩,?_,⟨by show(ByteArray.mk #[]).size<=100;decide,bF _,hq⟩⟩;show(s.bh++[_])[s.bh.length]?=_;simp
theorem PM.Sy.anJ.open(h:s.anJ){o:aE}{cp:aA}(ho:o<4)(he:s.gA o cn cp=0):(s.sG o cn cp).anJ:=by
 unfold Sy.gA at he;split at he
 ·cases he
 split at he
 ·cases he
 rename_i rR;split at he
 ·rename_i h1;exact aG he h1
 obtain⟨g1,g2⟩:=h.ready he;unfold Sy.sG;refine g1.anR ?_ g2;rcases qK s o with e|⟨k,hk,e,_⟩
 ·omega
 ·rw[e];show o*8+k<32;omega
theorem PM.Sy.anJ.number(h:s.anJ){j:aC aE}(hn:n<32)(hj:∀ x,j=aO x->∃ m,s.fds m=aO x):(s.dL n j).anJ:=by
 have hb:∀ m x,(s.dL n j).fds m=aO x->∃ m',s.fds m'=aO x:=fun m x hm=>by
  have h1:(if m=n then j else s.fds m)=aO x:=hm;by_cases e:m=n
  ·rw[aY e]at h1;exact hj x h1
  ·rw[aW e]at h1;exact⟨m,h1⟩
 refine⟨h.un,fun m x hm=>?_,fun m x hm=>?_,h.v2,fun m x op f hl=>?_,fun m x op f hl=>?_⟩
 ·have h1:(if m=n then j else s.fds m)=aO x:=hm
  by_cases e:m=n
  ·omega
  ·rw[aW e]at h1;exact h.num m x h1
 ·obtain⟨m',h'⟩:=hb m x hm
  exact h.v1 m' x h'
 ·obtain⟨m',h'⟩:=hb m x hl.l6
  exact h.pos m' x op f ⟨h',hl.gX,hl.hfl⟩
 ·obtain⟨m',h'⟩:=hb m x hl.l6
  exact h.tY m' x op f ⟨h',hl.gX,hl.hfl⟩
theorem PM.Sy.anJ.cM(h:s.anJ){f':Fl}(hf:NX s.bA f'):(s.dQ i f').anJ:=by
 have hb:∀ m j op f,(s.dQ i f').ia m j op f->(∃ f0,s.ia m j op f0)/\(f=f'\/s.ia m j op f):=fun m j op f hl=>by
  have h3:(s.bh.set i f')[op.cM]?=aO f:=hl.hfl;have gm:op.cM<s.bh.length:=by simpa using(aQ.1 h3).1
  refine⟨⟨_,hl.l6,hl.gX,aU gm⟩,?_⟩;rcases qL h3 with⟨_,e,_⟩|⟨_,h3⟩
  ·exact .inl e
  ·exact .inr ⟨hl.l6,hl.gX,h3⟩
 refine⟨h.un,h.num,h.v1,fun j op ho=>by simpa[Sy.dQ]using h.v2 j op ho,fun m j op f hl=>?_,fun m j op f hl=>?_⟩
 ·obtain⟨⟨f0,h0⟩,_⟩:=hb m j op f hl
  exact h.pos m j op f0 h0
 ·rcases(hb m j op f hl).2 with e|hl
  ·rw[e];exact hf
  ·exact h.tY m j op f hl
theorem PM.Sy.anJ.place(h:s.anJ){p:aF}(ho:s.bJ[j]?=aO op)(hp:0<=p/\p<=1000):(s.jw j { op with pos:=p }).anJ:=by
 have hb:∀ m j2 op2 f,(s.jw j { op with pos:=p }).ia m j2 op2 f->(op2.pos=p/\s.ia m j2 op f)\/s.ia m j2 op2 f:=fun m j2 op2 f hl=>by
  have h2:(s.bJ.set j { op with pos:=p })[j2]?=aO op2:=hl.gX;rcases qL h2 with⟨e1,e2,_⟩|⟨_,h2⟩
  ·left
   subst e1 e2;exact⟨rfl,hl.l6,ho,hl.hfl⟩
  ·exact .inr ⟨hl.l6,h2,hl.hfl⟩
 refine⟨h.un,h.num,fun m x hm=>by simpa[Sy.jw]using h.v1 m x hm,fun j2 op2 Lf=>?_,fun m j2 op2 f hl=>?_,fun m j2 op2 f hl=>?_⟩
 ·rcases qL (show(s.bJ.set j { op with pos:=p })[j2]?=aO op2 from Lf)with⟨_,e,_⟩|⟨_,h2⟩
  ·rw[e];exact h.v2 j op ho
  ·exact h.v2 j2 op2 h2
 ·rcases hb m j2 op2 f hl with⟨e,_⟩|hl
  ·rw[e];exact hp
  ·exact h.pos m j2 op2 f hl
 ·rcases hb m j2 op2 f hl with⟨_,hl⟩|hl
  ·exact h.tY m j2 op f hl
  ·exact h.tY m j2 op2 f hl
theorem PM.Sy.anJ.keep(h:s.anJ){t:aA}(hl:s.ia n j op f)(ht:t.size<=100)(he:s.eh f t=0):(s.eT op.cM f t).anJ:=by
 have hf:=h.tY n j op f hl;unfold Sy.eh at he;unfold Sy.eT;split
 ·exact h
 ·rename_i h1
  rw[aW h1]at he;split
  ·exact h.cM ⟨ht,hf.2.1,hf.2.2⟩
  ·rename_i h2
   rw[aW h2]at he;exact(h.put he (.inl rfl)).1
theorem Pq{free:Bool}{l:aB LK.Lk}{x:LK.Lk}(hw:∃ r:aF × aB LK.Lk,LK.KM.nP free l x r.1 r.2)(h:(fK free l x).1=0):(fK free l x).2.length<=40:=by
 obtain⟨r,hr⟩:=hw;obtain⟨e1,e2⟩:=uh hr;rw[<- e1]at h;rw[<- e2];rcases hr with⟨a,b,c⟩|⟨_,_,_,b,c⟩|⟨_,_,m',_,_,⟨_,b,c⟩|⟨b,_,c⟩⟩
 ·rw[c];simp
 ·rw[c];simp
 ·rw[c];simp
 ·rw[c];exact b
theorem Di{free:Bool}{l:aB LK.Lk}{x:LK.Lk}(h:(fK free l x).1=0):(fK free l x).2.length<=40:=by
 by_cases hw:∃ r:aF × aB LK.Lk,LK.KM.nP free l x r.1 r.2
 ·exact Pq hw h
 ·rw[fK,BK hw];simp
theorem PM.Sy.anJ.on(h:s.anJ){ow k:aE}{ck cm:aF}{cx:aA}{ca:Bool}(ho:ow<4)(hk:k<8)(hl:s.ia (ow*8+k) j op f)(he:(s.rV ow k ck cn cm cx ca j op f).1=0):(s.rV ow k ck cn cm cx ca j op f).2.1.anJ:=by
 have hf:=h.tY _ _ _ _ hl;have hp:=h.pos _ _ _ _ hl;have ht:=wj hf;unfold Sy.rV at he ⊢;split
 ·refine(h.number (by omega) (fun x hx=>by cases hx)).cM ⟨hf.1,bc (ed _ _) hf.2.1,hf.2.2⟩
 rename_i e2;rw[aW e2]at he;split
 ·rename_i e13
  rw[aY e13]at he;have hR:¬ s.eF ow<0:=by intro hR;simp only[aY hR]at he;cases he
  refine h.number ?_ (fun x hx=>by cases hx;exact⟨_,hl.l6⟩);rcases qK s ow with e|⟨k',Lc,e,_⟩
  ·omega
  ·rw[e];show ow*8+k'<32;omega
 rename_i e13;rw[aW e13]at he;split
 ·rename_i e5
  rw[aY e5]at he;have he:o5 cn=0:=he;unfold o5 at he;split at he
  ·cases he
  ·exact h.place hl.gX (by omega)
 rename_i e5;rw[aW e5]at he;split
 ·rename_i e14
  rw[aY e14]at he;exact h.cM ⟨hf.1,Di he,hf.2.2⟩
 rename_i e14;rw[aW e14]at he;split
 ·rename_i e15
  rw[aY e15]at he;exact h.cM ⟨hf.1,Di he,hf.2.2⟩
 rename_i e15;rw[aW e15]at he;split
 ·refine h.place hl.gX ⟨by omega,?_⟩
  unfold mP;simp only[fc];omega
 rename_i e3;rw[aW e3]at he;split
 ·rename_i e4
  rw[aY e4]at he;have he:s.sA op f cx=0:=he;have sN:0<=s.pz op f/\s.pz op f<=1000:=by unfold Sy.pz;split<;>omega
  unfold Sy.sA at he;split at he
  ·cases he
  split at he
  ·cases he
  rename_i hm;show(s.wo j op f cx).anJ;unfold Sy.wo;have htw:(js (s.cQ f) cx (s.pz op f)).size<=100:=by
   unfold js;split
   ·exact ht
   ·rename_i hx
    have h1:=mQ (s.cQ f) (s.pz op f) sN.1;have h2:¬ 100<s.pz op f+cx.size:=fun h2=>hm ⟨hx,h2⟩
    rw[gK,gK,fc];omega
  refine(h.keep hl htw he).place (by rw[pP];exact hl.gX) ⟨by omega,?_⟩;by_cases hx:cx.data.toList=[]
  ·have:cx.size=0:=by have h9:=ix cx;rw[hx,ib]at h9;omega
   omega
  ·have h2:¬ 100<s.pz op f+cx.size:=fun h2=>hm ⟨hx,h2⟩
   omega
 rename_i e4;rw[aW e4]at he;have he:s.nV op f cn=0:=he;unfold Sy.nV at he;split at he
 ·cases he
 split at he
 ·cases he
 rename_i hn;have:=mQ (s.cQ f) cn (by omega);exact h.keep hl (by omega) he
theorem PM.Sy.anJ.agI(h:s.anJ){ow:aE}{ck cf cm:aF}{cx:aA}{ca:Bool}(ho:ow<4)(he:(s.sF ow ck cf cn cm cx ca).1=0):(s.sF ow ck cf cn cm cx ca).2.1.anJ:=by
 unfold Sy.sF at he ⊢;split
 ·exact h
 ·rename_i hf
  rw[aW hf]at he;split
  ·exact h
  ·rename_i j hj
   simp only[hj]at he;split
   ·exact h
   ·rename_i op gX
    simp only[gX]at he;split
    ·exact h
    ·rename_i f hfl
     simp only[hfl]at he;exact h.on ho (by omega) ⟨hj,gX,hfl⟩ he
theorem PM.Sy.anJ.step(h:s.anJ){c:Cl}(he:(s.je c).1=0):(s.je c).2.1.anJ:=by
 unfold Sy.je at he ⊢;split
 ·exact h
 rename_i e;rw[aW e]at he;split
 ·exact h
 rename_i hw;rw[aW hw]at he;have ho:c.owner.toNat<4:=by omega
 split
 ·rename_i e
  rw[aY e]at he;exact h.open ho he
 rename_i e;rw[aW e]at he;split
 ·rename_i e
  rw[aY e]at he;exact h.add he
 rename_i e;rw[aW e]at he;split
 ·rename_i e
  rw[aY e]at he;exact h.add he
 rename_i e;rw[aW e]at he;split
 ·rename_i e
  rw[aY e]at he;exact h.remove he
 rename_i e;rw[aW e]at he;split
 ·rename_i e
  rw[aY e]at he;exact h.rename he
 rename_i e;rw[aW e]at he;split
 ·exact h
 rename_i e;rw[aW e]at he;split
 ·exact h
 rename_i e;rw[aW e]at he;exact h.agI ho he
theorem PM.Sy.anJ.anL(h:s.anJ)(c:Cl):(s.anL c).1.anJ:=by
 unfold Sy.anL;split
 ·rename_i e;exact h.step e
 ·exact h
end
theorem vI:∀ (l:aB Cl) {s:Sy},s.anJ->(s.run l).1.anJ
 | [],s,h=>h
 | c::r,s,h=>vI r (h.anL c)
theorem xR(h:(bH (up::cq)).1=0):(fJ up cq).anJ:=
 ⟨h,fun n j hj=>by simp[fJ]at hj,fun n j hj=>by simp[fJ]at hj,fun j op ho=>by simp[fJ]at ho,fun n j op f hl=>by have:=hl.l6;simp[fJ]at this,fun n j op f hl=>by have:=hl.l6;simp[fJ]at this⟩
theorem Tj(y:Lay)(lo:aB Lay)(pl:aC aJ)(cl:aE)(pc:aC aJ)(cc:aE)(l:aB Cl)(W:aw)(hU:eZ W y lo pl cl)(hg:Gl W W)(h0:(bH (y.es::lo.map (·.es))).1=0)(hn:l.length<=80)(hC:vu W pc l)(hs:∀ c∈l,c.Small):ay aP 4 #[ar #[ah y.ad y.es.length y.cap,ah pl lo.length cl],ah pc l.length cc] W (vy ((fJ y.es (lo.map (·.es))).run l).1 ((fJ y.es (lo.map (·.es))).run l).2 W):=
 V5 y lo pl cl pc cc l W hU hg h0 hn hC hs (fun k _=>(vI _ (xR h0)).fine)
