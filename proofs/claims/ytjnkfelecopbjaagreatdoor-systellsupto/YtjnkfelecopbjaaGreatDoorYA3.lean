import Derived.Test.YtjnkfelecopbjaaGreatDoorYA2
import Derived.RangeFuncNested
import Derived.RangeFuncBound
import Derived.Shelf.RegionOpen
import Derived.OwnWalkIn
import Derived.LoopNIn
import Derived.LoopIn
import Derived.Shelf.SlicesE.Equal
open Go.Proofs.Tryz
open Go.Value renaming int->aa,slice->ah,string->ai,pointer->aj,bool->aq,agg->ar,tuple->aL
open Go.IntKind renaming i64->ag
open Go.RowKit renaming Below->au
open Go renaming World->aw,Aside->ax,Calls->ay,Value->az,Addr->aJ
open _root_ renaming ByteArray->aA,List->aB,Option->aC,UInt8->aD,Nat->aE,Int->aF,absurd->aG
open Bool renaming false->aH,true->aI
open Go.Ending renaming returned->aK
open Go.Obj renaming cells->aM
open Option renaming none->aN,some->aO
open Go.Proofs.Tryz renaming prog->aP
set_option linter.all false
set_option maxHeartbeats 8000000
set_option maxRecDepth 100000
namespace Go.Proofs.YtjnkfelecopbjaaGreatDoor
open Go.RowKit PM Go.Sort
variable{W w w':aw}{aS k:aE}{l t:aB bP}{q:aB aD}{v:az}
theorem La(e:bP)(q:aA)(B:aE)(w:aw)(he:e.bm.size<=maxLen)(hq:q.size<=maxLen)(hB:B<w)(hc:w.cell? B=aO (ai q)):ay aP 198 #[ar #[ai e.bm, aa ag e.bE, ai e.text, aq e.opq],aj (aO B)] w fun r w'=>r=aK (aq (fL q e))/\Grown w w':=by
 have hne:B≠w.heap.size:=by omega
 have nI:=fun W=>rq q e.bm W hq he
 have HH:ax (fL q e=(decide (e.bm.data.toList=q.data.toList) && !(e.bE == 2) || anG q e.bm.data.toList && (!(e.bE == 2) || e.opq))):=rfl;generalize anG q e.bm.data.toList=u at nI HH;obtain⟨ep,ek,et,eo⟩:=e;by_cases hk:ek=2
 ·subst hk
  by_cases rb:ep.data.toList=q.data.toList
  ·obtain⟨e1,e2⟩:=kZ rb
   cases u with
   | false=>
    have HR:ax (fL q ⟨ep,2,et,eo⟩=aH):=by show _=_;rw[HH.out];simp
    go_enter func198,ntmps198;go_wp2_with (go_at_call 134;refine(nI _).mono ?_;rintro r w' ⟨rfl,rfl⟩);go_ret;exact⟨df HR.symm,(Grown.refl w).alloc _⟩
   | true=>
    have HR:ax (fL q ⟨ep,2,et,eo⟩=eo):=by show _=_;rw[HH.out];simp
    go_enter func198,ntmps198;go_wp2_with (go_at_call 134;refine(nI _).mono ?_;rintro r w' ⟨rfl,rfl⟩);go_ret;exact⟨df HR.symm,(Grown.refl w).alloc _⟩
  ·obtain⟨e1,e2⟩:=j8 rb
   cases u with
   | false=>
    have HR:ax (fL q ⟨ep,2,et,eo⟩=aH):=by show _=_;rw[HH.out];simp
    go_enter func198,ntmps198;go_wp2_with (go_at_call 134;refine(nI _).mono ?_;rintro r w' ⟨rfl,rfl⟩);go_ret;exact⟨df HR.symm,(Grown.refl w).alloc _⟩
   | true=>
    have HR:ax (fL q ⟨ep,2,et,eo⟩=eo):=by show _=_;rw[HH.out];simp
    go_enter func198,ntmps198;go_wp2_with (go_at_call 134;refine(nI _).mono ?_;rintro r w' ⟨rfl,rfl⟩);go_ret;exact⟨df HR.symm,(Grown.refl w).alloc _⟩
 ·by_cases rb:ep.data.toList=q.data.toList
  ·obtain⟨e1,e2⟩:=kZ rb
   have HR:ax (fL q ⟨ep,ek,et,eo⟩=aI):=by show _=_;rw[HH.out];simp[hk,rb]
   clear nI;go_enter func198,ntmps198;go_wp2;go_ret;exact⟨df HR.symm,(Grown.refl w).alloc _⟩
  ·obtain⟨e1,e2⟩:=j8 rb
   cases u with
   | false=>
    have HR:ax (fL q ⟨ep,ek,et,eo⟩=aH):=by show _=_;rw[HH.out];simp[rb]
    go_enter func198,ntmps198;go_wp2_with (go_at_call 134;refine(nI _).mono ?_;rintro r w' ⟨rfl,rfl⟩);go_ret;exact⟨df HR.symm,(Grown.refl w).alloc _⟩
   | true=>
    have HR:ax (fL q ⟨ep,ek,et,eo⟩=aI):=by show _=_;rw[HH.out];simp[hk]
    go_enter func198,ntmps198;go_wp2_with (go_at_call 134;refine(nI _).mono ?_;rintro r w' ⟨rfl,rfl⟩);go_ret;exact⟨df HR.symm,(Grown.refl w).alloc _⟩
theorem Aj(t:aB bP)(q:aA)(p:aC aJ)(cap:aE)(w:aw)(hL:bI w p t)(hF:anM t)(hn:t.length<4611686018427387904)(hq:q.size<=maxLen):ay aP 156 #[ah p t.length cap,ai q] w fun r w'=>r=aK (aq (fM t q))/\Grown w w':=by
 have eg:∀ args w,(callFunc 198 args).run aP w=.ok (.enter 198 args) w:=enters_of func198 (by kernel_rfl) rfl;have hs:=yT (fL q) 198 #[aj (aO ⟨w.heap.size,0,aN⟩)] eg t p cap (w.alloc (aM #[ai q] 9)) (hL.grown ((Grown.refl w).alloc _)) hn
  (fun W x hG hx=>La x q w W (hF x hx).1 hq (by have:=hG.size;simp at this;omega) ((hG.cell (p:=w) (by simp)).trans (by simp)))
 clear eg;have HA:ax (fM t q.data.toList=t.any (fL q)):=rfl;generalize t.any (fL q)=bb at hs HA;go_enter func156,ntmps156;go_wp2_with (go_at_call 197;refine hs.mono ?_;clear hs;rintro e w' ⟨rfl,hG⟩);go_ret;exact⟨df HA.symm,(Grown.refl w).alloc _ |>.trans hG⟩
def Rows(w:aw)(aS:aE)(v:az)(l:aB bP):Prop:=w.ownsRow aS 88 4 v l.length (l.flatMap fy)
theorem Rows.nil(w:aw)(aS:aE):Rows w aS (ah aN 0 0) []:=kK _ _ _ _
theorem Rows.mono{base':aE}(h:Rows w aS v l)(hb:base'<=aS):Rows w base' v l:=by refine⟨h.1,h.2.imp id ?_⟩;rintro⟨g,cap,eI,e,hg,r⟩;exact⟨g,cap,eI,e,bc hb hg,r⟩
theorem Rows.below(h:Rows w aS v l)(hb:au w w w'):Rows w' aS v l:=by
 refine⟨h.1,h.2.imp id ?_⟩;rintro⟨g,cap,eI,e,hg,hh,r⟩;have gm:g<w.heap.size:=by
  rcases gR g w with h'|h'
  ·exact h'
  ·rw[il h']at hh;cases hh
 exact⟨g,cap,eI,e,hg,by rw[hb.block g gm];exact hh,r⟩
theorem Rows.form(h:Rows w aS v l):∃ p c,v=ah p l.length c/\bI w p l/\l.length<=c/\(p=aN->c=0):=by
 by_cases hv:v=ah aN 0 0
 ·have hl:l=[]:=by
   obtain⟨h1,⟨_,h2⟩|⟨g,cap,eI,yE,_⟩⟩:=h
   ·exact bX h2
   ·rw[yE]at hv;cases hv
  subst hl;exact⟨aN,0,hv,bI.nil _ _,aV _,fun _=>rfl⟩
 ·obtain⟨g,c,e,_,ho⟩:=Own.pS h hv rfl
  exact⟨_,c,e,ho.anO,ho.len,fun h=>by cases h⟩
theorem lK(W:aw)(y:bP)(H:aE)(hH:H=W):∀ j u,(fy y)[j]?=aO u->(W.alloc (aM #[ai y.bm,aa ag y.bE,ai y.text,aq y.opq] 88)).cell? ((⟨H,0,aN⟩:aJ).add j)=aO u:=by
 subst hH;intro j u h;have hj:=tU h;obtain rfl|rfl|rfl|rfl:j=0\/j=1\/j=2\/j=3:=by omega
 all_goals (simp[fy]at h;subst h;rw[dG];simp)
def iq(l:aB bP)(w:aw)(e:Ending)(w':aw):Prop:=(∃ v,e=aK v/\Rows w' w v l)/\au w w w'
theorem gS{ops:Array Oper}{rest:aB Oper}{o:Oper}{a:Act}{Q:Exit->Act->aw->Prop}(X:aw)(y:bP)(ly:o.guard=aN)(s x:Operand)(ho:o.op=.call { callee:=.builtin .append,args:=#[s,x],argTypes:=#[23,23] })(aS:aE)(v:az)(l:aB bP)(hs:a.eval s=v)(jF:Rows X aS v l)(hlen:l.length<=20000)(eD:aS<=X)(H:aE)(hH:H=X)(hx:a.eval x=ah (aO H) 1 1)(h:∀ v' w',Rows w' aS v' (l++[y])->au aS X w'->(∀ ad:aJ,ad.block<X->(∀ g,v.ownBlock=aO g->ad.block≠g)->w'.cell? ad=X.cell? ad)->X.heap.size<=w'.heap.size->wpList aP ops Q rest (a.put o.dst v') w'):wpList aP ops Q (o::rest) a (X.alloc (aM #[ai y.bm, aa ag y.bE, ai y.text, aq y.opq] 88)):=by
 obtain⟨i0,hi,ou,mL,mh⟩:=ue;refine dP _ ly s x 23 ho aS 88 i0 _ 4 48 underlying23 hi ou mL mh rfl (by decide) _ _ _ hs (qD jF _) _ 1 1 (fy y) hx rfl (lK _ _ _ hH) (fun u hu=>kA (t:=[y]) (by simpa using hu)) (by unfold maxLen;omega) (by omega) (by simp;omega) ?_;intro v' w' gG gN _;have iL:X.heap.size<=w'.heap.size:=by have:=gN.size;simp at this;omega
 refine h v' w' (by simpa[Rows]using gG) (((aR aS X).alloc eD _).grown gN (by simp;omega) (fun j hj=>(gQ jF j hj).1)) (fun ad had hne=>?_) iL;have h1:w'.cell? ad=(X.alloc (aM #[ai y.bm, aa ag y.bE, ai y.text, aq y.opq] 88)).cell? ad:=ji (gN.block _ (by simp;omega) (fun e=>hne _ e.symm rfl));rw[h1];exact((Grown.refl X).alloc _).cell had
def lR(t:aB bP)(f:aB aD):aF:=kb [(cV aH t).1,pC t f]
def qk(t:aB bP)(f anW:aB aD):aF:=kb [eL t (bU anW),uN t f anW]
def ez(t:aB bP)(bS anW:aA):aF:=
 if lR t bS.data.toList=0 then
  if anI anW.data.toList=aI then
   if bS.data.toList=anW.data.toList then 0
   else if anG anW bS.data.toList=aI then 8
   else if qk t bS anW.data.toList=0 then(if pY t bS anW=aI then 4 else 0)
   else qk t bS anW.data.toList
  else 7
 else lR t bS.data.toList
def ry(t:aB bP)(bS anW:aA)(w:aw)(r:Ending)(w':aw):Prop:=
 ∃ l,iB (ez t bS anW) l w r w'/\(ez t bS anW≠0->l=[]) /\
  (ez t bS anW=0->(bS.data.toList=anW.data.toList->l=t)/\(bS.data.toList≠anW.data.toList->l.Perm (gO t bS anW)/\l.Pairwise fun a b=>¬ cmp b.p a.p<0))
theorem LJ(t:aB bP)(f:aB aD)(r:aF)(hr:b7 t->r=pC t f):kb [(cV aH t).1,r]=lR t f:=by
 unfold lR;by_cases h:(cV aH t).1=0
 ·rw[hr (fO.1 h).anF]
 ·simp[kb,h]
theorem zm{f:aB aD}(h:lR t f=0):du aH t/\∃ e∈t,e.p=f:=by
 unfold lR at h;obtain⟨h1,h⟩:=nM.1 h;obtain⟨h2,_⟩:=nM.1 h;refine⟨fO.1 h1,?_⟩;unfold pC at h2;split at h2
 ·assumption
 ·omega
theorem ry.err{bS anW:aA}{er:aF}(he:er=ez t bS anW)(h0:er≠0)(hB:au w w w'):ry t bS anW w (aK (aL #[ah aN 0 0,aa ag er])) w':=by subst he;exact⟨[],iB.none hB,fun _=>rfl,fun h=>aG h h0⟩
theorem SZ(t:aB bP)(bS anW:aA)(m:aF)(p:aC aJ)(cap:aE)(w:aw)(hL:bI w p t)(hF:anM t)(hn:t.length<4611686018427387904)(ir:t.length<=cap)(iR:p=aN->cap=0)(hf:bS.size<=maxLen)(ht:anW.size<=maxLen)(hm:w.cell? ⟨0,0,aN⟩=aO (aa ag m)):ay aP 131 #[ah p t.length cap,ai bS,ai anW] w (ry t bS anW w):=by
 have iM:=fun W (hB:au w.heap.size w W)=>pW t m p cap W (hL.bB hB) hF hn ir (held hB hm)
 have Hf:=fun W (hB:au w.heap.size w W)=>A7 t bS p cap W (hL.bB hB) hF hn hf
 have mz:=fun W (hB:au w.heap.size w W)=>z8 anW m W ht (held hB hm)
 have HA:ax (∀ r:aF,(b7 t->r=pC t bS)->kb [(cV aH t).1,r]=lR t bS):=LJ t bS.data.toList;have hB:au w w w:=aR _ _;have Gc:=wG;have qH:ax (ez t bS anW=if lR t bS.data.toList=0 then if anI anW.data.toList=aI then if bS.data.toList=anW.data.toList then 0 else if anG anW bS.data.toList=aI then 8 else if qk t bS anW.data.toList=0 then(if pY t bS anW=aI then 4 else 0)else qk t bS anW else 7 else lR t bS):=rfl
 have HZ:ax (lR t bS.data.toList=0->du aH t/\∃ e∈t,e.p=bS.data.toList):=zm;obtain⟨n,eK⟩:=ee t.length
 have HN:ax (n=t.length):=eK;generalize (cV aH t).1=f at iM HA;generalize ((cV aH t).2:aF)=fa at iM;generalize lR t bS.data.toList=ask at HA qH HZ;by_cases nW:ask=0
 ·subst nW
  have Uf:=HZ.out rfl;have HR:ax (du aH t/\∃ e∈t,e.p=bS.data.toList):=Uf;have R6:bS.size<=80:=by obtain⟨hr,x,hx,yG⟩:=Uf;have:=hr.anI hx;rw[yG]at this;exact fG this
  have HL:ax (bI w p t):=hL;have HFt:ax (anM t):=hF;rw[aY rfl]at qH;cases Nq:anI anW with
  | false=>
   have HE7:ax (7=ez t bS anW):=by show _=_;rw[qH.out,Nq];rfl
   rw[Nq]at mz;rw[<- eK]at iM Hf ⊢;clear eK Uf hL hF hn ir;go_enter func131,ntmps131;go_wp2_with (first
    | (go_at_call 110;refine(iM _ hB).mono ?_;clear iM;rintro e w1 ⟨rfl,hN⟩;replace hB:=Below.bK hB hN;clear hN)
    | (go_at_call 171;refine(Hf _ hB).mono ?_;clear Hf;rintro e w2 ⟨r,rfl,hr,hN⟩;have HE:ax (kb [f,r]=0):=HA.out r hr;clear hr HA;replace hB:=Below.bK hB hN;clear hN)
    | (go_at_call 109;refine(nQ _ _ _).mono ?_;rintro e w4 ⟨rfl,hw⟩;subst hw;replace hB:=hB.alloc hB.size (aM #[aa ag f,aa ag r] 31);rw[HE.out])
    | (go_at_call 177;refine(mz _ hB).mono ?_;clear mz;rintro e w5 ⟨rfl,hN⟩;replace hB:=Below.bK hB hN;clear hN))
   go_ret2;exact ry.err HE7.out (by decide) hB
  | true=>
   have Aq:anW.size<=80:=fG Nq;rw[Nq,aY rfl]at qH;rw[Nq]at mz;have rE:n<=80:=by rw[eK];exact Uf.1.len
   have nI:=fun W=>rq anW bS W ht hf
   have En:∀ W,au w w W->ay aP 166 #[ah p t.length cap,ai anW] W fun r w'=>r=aK (aa ag (eL t (bU anW)))/\au W.heap.size W w':=fun W hB=>(uj t anW p cap W (hL.bB hB) hF hn ht (by omega)).mono fun r w' ⟨x,h1,h2,h3⟩=>⟨by rw[h1,h2 Uf.1.anF],h3⟩
   have hro:=fun W (hB:au w.heap.size w W)=>LM t bS anW p cap W (hL.bB hB) hF hn hf ht Uf.1.anF
   have hmo:=fun W (hB:au w.heap.size w W)=>Py t bS anW m p cap W (hL.bB hB) iR Uf.1 R6 Aq (held hB hm)
   have Xz:ax (kb [eL t (bU anW),uN t bS anW.data.toList]=qk t bS anW):=rfl;generalize eL t (bU anW)=nd at En Xz;generalize uN t bS anW.data.toList=rm at hro Xz;generalize qk t bS anW.data.toList=aeT at Xz qH;rw[<- eK]at iM Hf En hro hmo ⊢;clear eK Uf hL hF hn ir;by_cases qF:bS.data.toList=anW.data.toList
   ·have Zw:ax (ez t bS anW=0):=by show _=_;rw[qH.out,aY qF]
    obtain⟨e1,e2⟩:=kZ qF;have UR:ax (bS.data.toList=anW.data.toList):=qF;clear qF nI En hro hmo qH Xz;go_enter func131,ntmps131;go_wp2_with (first
    | (go_at_call 110;refine(iM _ hB).mono ?_;clear iM;rintro e w1 ⟨rfl,hN⟩;replace hB:=Below.bK hB hN;clear hN)
    | (go_at_call 171;refine(Hf _ hB).mono ?_;clear Hf;rintro e w2 ⟨r,rfl,hr,hN⟩;have HE:ax (kb [f,r]=0):=HA.out r hr;clear hr HA;replace hB:=Below.bK hB hN;clear hN)
    | (go_at_call 109;refine(nQ _ _ _).mono ?_;rintro e w4 ⟨rfl,hw⟩;subst hw;replace hB:=hB.alloc hB.size (aM #[aa ag f,aa ag r] 31);rw[HE.out];clear HE)
    | (go_at_call 177;refine(mz _ hB).mono ?_;clear mz;rintro e w5 ⟨rfl,hN⟩;replace hB:=Below.bK hB hN;clear hN)
    | (at_builtin;refine mC _ rfl _ _ rfl w5 rfl ?_ p n cap t rfl HN.out ?_ iR rE ?_ ?_))
    ·exact om w5 _ rfl
    ·exact(HL.bB hB).grown ((Grown.refl _).alloc _)
    ·simp
    ·intro g c w6 hO hg E3
     have hX:au w5 w5 w6:=((aR _ _).alloc (aV _) _).trans E3;have H6:ax (Own w6 g c t/\au w w w6):=⟨hO,Below.bK hB hX⟩
     clear hO E3 hX;go_wp2;go_ret2;refine⟨t,?_,fun h=>aG Zw.out h,fun _=>⟨fun _=>rfl,fun h=>aG UR.out h⟩⟩;rw[Zw.out];exact⟨aO ⟨g,0,aN⟩,c,by rw[<- HN.out];rfl,H6.1.anO,H6.1.len,nofun,H6.2⟩
   ·rw[aW qF]at qH
    obtain⟨e1,e2⟩:=j8 qF;have UR:ax (bS.data.toList≠anW.data.toList):=qF;clear qF;cases hut:anG anW bS with
    | true=>
     have HE8:ax (8=ez t bS anW):=by show _=_;rw[qH.out,hut];rfl
     rw[hut]at nI;clear En hro hmo qH Xz;go_enter func131,ntmps131;go_wp2_with (first
    | (go_at_call 110;refine(iM _ hB).mono ?_;clear iM;rintro e w1 ⟨rfl,hN⟩;replace hB:=Below.bK hB hN;clear hN)
    | (go_at_call 171;refine(Hf _ hB).mono ?_;clear Hf;rintro e w2 ⟨r,rfl,hr,hN⟩;have HE:ax (kb [f,r]=0):=HA.out r hr;clear hr HA;replace hB:=Below.bK hB hN;clear hN)
    | (go_at_call 109;refine(nQ _ _ _).mono ?_;rintro e w4 ⟨rfl,hw⟩;subst hw;replace hB:=hB.alloc hB.size (aM #[aa ag f,aa ag r] 31);rw[HE.out];clear HE)
    | (go_at_call 177;refine(mz _ hB).mono ?_;clear mz;rintro e w5 ⟨rfl,hN⟩;replace hB:=Below.bK hB hN;clear hN)
    | (go_at_call 134;refine(nI _).mono ?_;rintro rr wx ⟨rfl,Hh⟩;subst wx))
     go_ret2;exact ry.err HE8.out (by decide) hB
    | false=>
     rw[hut]at nI qH;rw[aW (by decide)]at qH;by_cases Ni:aeT=0
     ·rw[aY Ni]at qH
      subst Ni;go_enter func131,ntmps131;go_wp2_with (first
    | (go_at_call 110;refine(iM _ hB).mono ?_;clear iM;rintro e w1 ⟨rfl,hN⟩;replace hB:=Below.bK hB hN;clear hN)
    | (go_at_call 171;refine(Hf _ hB).mono ?_;clear Hf;rintro e w2 ⟨r,rfl,hr,hN⟩;have HE:ax (kb [f,r]=0):=HA.out r hr;clear hr HA;replace hB:=Below.bK hB hN;clear hN)
    | (go_at_call 109;refine(nQ _ _ _).mono ?_;rintro e w4 ⟨rfl,hw⟩;subst hw;replace hB:=hB.alloc hB.size (aM #[aa ag f,aa ag r] 31);rw[HE.out];clear HE)
    | (go_at_call 177;refine(mz _ hB).mono ?_;clear mz;rintro e w5 ⟨rfl,hN⟩;replace hB:=Below.bK hB hN;clear hN)
    | (go_at_call 134;refine(nI _).mono ?_;rintro rr wx ⟨rfl,Hh⟩;subst wx)
    | (go_at_call 166;refine(En _ hB).mono ?_;clear En;rintro rr w6 ⟨rfl,hN⟩;replace hB:=Below.bK hB hN;clear hN)
    | (go_at_call 178;refine(hro _ hB).mono ?_;clear hro;rintro rr w7 ⟨rfl,hN⟩;replace hB:=Below.bK hB hN;clear hN)
    | (go_at_call 109;refine(nQ _ _ _).mono ?_;rintro rr w8 ⟨rfl,hw⟩;subst hw;replace hB:=hB.alloc hB.size (aM #[aa ag nd,aa ag rm] 31);rw[Xz.out])
    | (go_at_call 179;refine(hmo _ hB).mono ?_;clear hmo;rintro rr w9 (⟨F6,p9,c9,rfl,hl9,RX,Pc,ZT⟩|⟨F6,l9,hp9,hs9,p9,c9,rfl,hl9,RX,Pc,ZT⟩)))
      ·go_ret2
       have h4:ez t bS anW=4:=by rw[qH.out,aY F6]
       refine⟨[],?_,fun _=>rfl,fun h=>by rw[h4]at h;cases h⟩;rw[h4];exact⟨p9,c9,rfl,hl9,RX,Pc,Below.bK hB ZT⟩
      ·go_ret2
       have h0:ez t bS anW=0:=by rw[qH.out,aW (by rw[F6];decide)]
       refine⟨l9,?_,fun h=>aG h0 h,fun _=>⟨fun h=>aG h UR.out,fun _=>⟨hp9,hs9.imp (fun h=>by omega)⟩⟩⟩;rw[h0];exact⟨p9,c9,rfl,hl9,RX,Pc,Below.bK hB ZT⟩
     ·rw[aW Ni]at qH
      clear hmo;go_enter func131,ntmps131;go_wp2_with (first
    | (go_at_call 110;refine(iM _ hB).mono ?_;clear iM;rintro e w1 ⟨rfl,hN⟩;replace hB:=Below.bK hB hN;clear hN)
    | (go_at_call 171;refine(Hf _ hB).mono ?_;clear Hf;rintro e w2 ⟨r,rfl,hr,hN⟩;have HE:ax (kb [f,r]=0):=HA.out r hr;clear hr HA;replace hB:=Below.bK hB hN;clear hN)
    | (go_at_call 109;refine(nQ _ _ _).mono ?_;rintro e w4 ⟨rfl,hw⟩;subst hw;replace hB:=hB.alloc hB.size (aM #[aa ag f,aa ag r] 31);rw[HE.out];clear HE)
    | (go_at_call 177;refine(mz _ hB).mono ?_;clear mz;rintro e w5 ⟨rfl,hN⟩;replace hB:=Below.bK hB hN;clear hN)
    | (go_at_call 134;refine(nI _).mono ?_;rintro rr wx ⟨rfl,Hh⟩;subst wx)
    | (go_at_call 166;refine(En _ hB).mono ?_;clear En;rintro rr w6 ⟨rfl,hN⟩;replace hB:=Below.bK hB hN;clear hN)
    | (go_at_call 178;refine(hro _ hB).mono ?_;clear hro;rintro rr w7 ⟨rfl,hN⟩;replace hB:=Below.bK hB hN;clear hN)
    | (go_at_call 109;refine(nQ _ _ _).mono ?_;rintro rr w8 ⟨rfl,hw⟩;subst hw;replace hB:=hB.alloc hB.size (aM #[aa ag nd,aa ag rm] 31);rw[Xz.out]))
      go_ret2;exact ry.err qH.symm Ni hB
 ·have HEA:ax (ask=ez t bS anW):=by show _=_;rw[qH.out,aW nW]
  rw[<- eK]at iM Hf ⊢;clear eK hL hF hn ir mz;go_enter func131,ntmps131;go_wp2_with (first
   | (go_at_call 110;refine(iM _ hB).mono ?_;clear iM;rintro e w1 ⟨rfl,hN⟩;replace hB:=Below.bK hB hN;clear hN)
   | (go_at_call 171;refine(Hf _ hB).mono ?_;clear Hf;rintro e w2 ⟨r,rfl,hr,hN⟩;have HE:ax (kb [f,r]=ask):=HA.out r hr;clear hr HA;replace hB:=Below.bK hB hN;clear hN)
   | (go_at_call 109;refine(nQ _ _ _).mono ?_;rintro e w4 ⟨rfl,hw⟩;subst hw;replace hB:=hB.alloc hB.size (aM #[aa ag f,aa ag r] 31);rw[HE.out]))
  go_ret2;exact ry.err HEA.out nW hB
theorem CS{a b:aB bP}(ha:b7 a)(hb:b7 b)(h:∀ x,x.p=q->(x∈a↔x∈b)):bW a q=bW b q:=by
 by_cases hq:q=[]
 ·rw[hq,iE,iE]
 cases h1:bW a q with
 | none =>have:=(gU h1).2;exact(eV hq fun e he hp=>this e ((h e hp).2 he) hp).symm
 | some x =>obtain⟨hx,hp⟩:=dK hq h1;have:=kW hb ((h x hp).1 hx) (by rw[hp];exact hq);rw[hp]at this;exact this.symm
theorem xC{e:bP}(hs:b7 t)(he:e.p≠[]):bW (kM t e) e.p=aO e:=kW (iw hs e) (jo.2 (.inl rfl)) he
theorem CT{e:bP}(hs:b7 t)(hq:q≠e.p):bW (kM t e) q=bW t q:=
 CS (iw hs e) hs fun x hx=>by
  rw[jo];constructor
  ·rintro(rfl|⟨h,_⟩)
   ·exact aG hx.symm hq
   ·exact h
  ·intro h;exact .inr ⟨h,by rw[hx];exact hq⟩
theorem CU{p:aB aD}(hs:b7 t)(hq:q≠p):bW (pq t p) q=bW t q:=
 CS (wh hs p) hs fun x hx=>by rw[jJ];exact⟨fun h=>h.1,fun h=>⟨h,by rw[hx];exact hq⟩⟩
theorem za(t:aB bP)(q:aA)(p:aC aJ)(cap:aE)(w:aw)(hL:bI w p t)(hF:anM t)(hn:t.length<4611686018427387904)(hq:q.size<=maxLen)(hs:b7 t)(x:bP)(b:Bool)(hx:(bW t q).getD cR=x)(hb:(bW t q).isSome=b):ay aP 76 #[ah p t.length cap,ai q] w fun r w'=>r=aK (aL #[ar #[ai x.bm, aa ag x.bE, ai x.text, aq x.opq],aq b])/\au w w w':=by
 refine(y9 t q p cap w hL hF hn hq).mono ?_;rintro r w' ⟨x',b',rfl,hg,hz,_,hB⟩;have h1:=Nf (hg hs) hz;have h2:(bW t q).isSome=b':=by rw[hg hs];cases b'<;>rfl
 rw[<- hx,h1,<- hb,h2];exact⟨rfl,hB⟩
theorem NR{o o2:Obj}(h:au (w.heap.size+1) (w.alloc o) W):au (w.heap.size+1) (w.alloc o) (W.alloc o2):=h.alloc (by have:=h.size;simpa using this) _
theorem zw{y:bP}(hy:t[k]?=aO y):jg (t.take (k+1))=jg (t.take k)++(if y.bE=4 then[]else[kX y]):=by unfold jg;rw[gi hy,eu,fk];by_cases h1:y.bE=4<;>simp[h1]
theorem zx(t:aB bP)(k:aE):(jg (t.take k)).length<=k:=by unfold jg;rw[bQ];refine bc (ed _ _) ?_;rw[bL];exact QV _ _
theorem V2(t:aB bP)(p:aC aJ)(cap:aE)(w:aw)(hL:bI w p t)(rE:t.length<=80):ay aP 111 #[ah p t.length cap] w (iq (jg t) w):=by
 have HL:ax _:=hL;obtain⟨n,eK⟩:=ee t.length
 have HN:ax _:=eK;rw[<- eK]at rE ⊢;clear eK hL;go_enter func111,ntmps111;go_wp2;go_loopg [3,8] n (fun gg v i wr=>∃ (k:aE) (l:aB bP),k<=n/\n-k<=gg/\i=aa ag k/\l.length<=k/\ax (Rows wr w v l)/\ax (au w w wr)/\ax (l=jg (t.take k)))
 case atStart=>exact⟨0,[],bF _,by omega,rfl,aV _,Rows.nil _ _,aR _ _,rfl⟩
 case round=>
  obtain⟨k,l,hk,oP,rfl,xV,ST,BW,NM⟩:=hrel;by_cases gm:k<n
  ·have eN:(k:aF)<(n:aF):=by omega
   obtain⟨y,hy⟩:∃ y,t[k]?=aO y:=⟨_,aU (by have:=HN.out;omega)⟩
   have HY:ax _:=hy;rcases HL.out with h0|⟨b,off,rfl,hb,hc⟩
   ·rw[h0]at hy;simp at hy
   obtain⟨c0,c1,c2,c3⟩:=bI.cells hc hb BW.out hy;clear hc hy;have Lj:=BW.size;by_cases C5:y.bE=4
   ·have HS:ax (jg (t.take (k+1))=l):=by show _=_;rw[zw HY.out,aY C5,fj,NM.out]
    go_wp2;go_roundg (n-(k+1))
    case measure=>omega
    case rel=>exact⟨k+1,l,by omega,by omega,by go_num,by omega,ST.below ((Grown.refl wr).alloc _).below,BW.alloc BW.size _,HS.symm⟩
   ·have HS:ax (jg (t.take (k+1))=l++[kX y]):=by show _=_;rw[zw HY.out,aW C5,NM.out]
    have HA:ax (au wr wr (wr.alloc (aM #[ai y.bm,aa ag y.bE,ai y.text,aq aH] 88))):=((Grown.refl wr).alloc _).below;have Ck:=ST.below HA.out;go_wp2_with (at_builtin;refine gS (wr.alloc (aM #[ai y.bm,aa ag y.bE,ai y.text,aq aH] 88)) (kX y) rfl _ _ rfl w _ l rfl Ck (by omega) (by simp;omega) _ (by simp) rfl ?_;clear Ck;intro v4 w4 uW eO F1 Qz;have Kj:ax _:=uW;have kT:ax _:=(Below.bK BW.out HA.out).trans eO;clear uW eO F1);go_roundg (n-(k+1))
    case measure=>omega
    case rel=>exact⟨k+1,l++[kX y],by omega,by omega,by go_num,by simp;omega,Kj.out,kT.out,HS.symm⟩
  ·have eN:¬ (k:aF)<(n:aF):=by omega
   have HE:ax (jg t=l):=by show _=_;rw[NM.out,cz (by have:=HN.out;omega)]
   go_wp2;go_ret;exact⟨⟨_,rfl,by rw[HE.out];exact ST.out⟩,BW.out⟩
theorem Qb{y:bP}(hy:t[k]?=aO y):jK l (t.take (k+1))=jK l (t.take k)++(if rK l y then[y]else[]):=by unfold jK;rw[gi hy,eu];cases h1:rK l y<;>simp[h1]
theorem EA(l t:aB bP)(k:aE):(jK l (t.take k)).length<=k:=by unfold jK;refine bc (ed _ _) ?_;rw[bL];exact QV _ _
theorem JR(l t:aB bP)(pl p:aC aJ)(nR cap:aE)(w:aw)(Iz:bI w pl l)(hL:bI w p t)(G7:anM l)(hF:anM t)(hs:b7 l)(rS:l.length<=80)(rE:t.length<=80):ay aP 112 #[ah pl l.length nR,ah p t.length cap] w (iq (jK l t) w):=by
 have HL:ax _:=hL;have HFt:ax _:=hF;have QI:ax (∀ (y:bP) W,y∈t->au w w W->∀ x b,(bW l y.p).getD cR=x->(bW l y.p).isSome=b->ay aP 76 #[ah pl l.length nR,ai y.bm] W fun r w'=>r=aK (aL #[ar #[ai x.bm, aa ag x.bE, ai x.text, aq x.opq],aq b])/\au W W w'):=
  fun y W hy hB x b hx hb=>za l y.bm pl nR W (Iz.bB hB) G7 (by omega) (hF y hy).1 hs x b hx hb
 have HHI:ax (∀ (y:bP) W,y∈t->au w w W->ay aP 156 #[ah pl l.length nR,ai y.bm] W fun r w'=>r=aK (aq (fM l y.p))/\Grown W w'):=
  fun y W hy hB=>Aj l y.bm pl nR W (Iz.bB hB) G7 (by omega) (hF y hy).1
 obtain⟨n,eK⟩:=ee t.length
 have HN:ax _:=eK;rw[<- eK]at rE ⊢;obtain⟨nl,abQ⟩:=ee l.length
 rw[<- abQ]at QI HHI rS ⊢;clear eK abQ hL hF Iz G7;go_enter func112,ntmps112;go_wp2;go_loopg [5,12] n (fun gg v i wr=>∃ (k:aE) (r:aB bP),k<=n/\n-k<=gg/\i=aa ag k/\r.length<=k/\ax (Rows wr w v r)/\ax (au w w wr)/\ax (r=jK l (t.take k)))
 case atStart=>exact⟨0,[],bF _,by omega,rfl,aV _,Rows.nil _ _,aR _ _,rfl⟩
 case round=>
  obtain⟨k,r,hk,oP,rfl,xV,ST,BW,NM⟩:=hrel;by_cases gm:k<n
  ·have eN:(k:aF)<(n:aF):=by omega
   obtain⟨y,hy⟩:∃ y,t[k]?=aO y:=⟨_,aU (by have:=HN.out;omega)⟩
   have HY:ax _:=hy;have HM:ax (y∈t):=bw hy;rcases HL.out with h0|⟨b,off,rfl,hb,hc⟩
   ·rw[h0]at hy;simp at hy
   obtain⟨c0,c1,c2,c3⟩:=bI.cells hc hb BW.out hy;clear hc hy;have Lj:w.heap.size<=wr.heap.size:=BW.size;obtain⟨⟨xp,xk,xt,xo⟩,IY⟩:∃ x,(bW l y.p).getD cR=x:=⟨_,rfl⟩
   obtain⟨bb,pN⟩:=o7 ((bW l y.p).isSome)
   have HSE:ax (rK l y=(!bb && !fM l y.p)):=by show _=_;rw[rK,<- pN];cases bW l y.p<;>rfl
   have gI:=QI.out y (wr.alloc (aM #[ai y.bm, aa ag y.bE, ai y.text, aq y.opq] 88)) HM.out (BW.alloc BW.size _) _ bb IY pN;clear IY pN;have uY:ax (jK l (t.take (k+1))=r++(if rK l y then[y]else[])):=by show _=_;rw[Qb HY.out,NM.out]
   cases bb with
   | true=>
    have HS:ax (jK l (t.take (k+1))=r):=by show _=_;rw[uY.out,HSE.out];simp
    go_wp2_with (go_at_call 76;refine gI.mono ?_;clear gI;rintro rr w2 ⟨rfl,fC⟩;have nN:ax (au wr wr (w2.alloc (aM #[ai xp,aa ag xk,ai xt,aq xo] 88))):=pA (fC.alloc fC.size _);clear fC);go_roundg (n-(k+1))
    case measure=>omega
    case rel=>exact⟨k+1,r,by omega,by omega,by go_num,by omega,ST.below nN.out,Below.bK BW.out nN.out,HS.symm⟩
   | false=>
    have A0:=fun W=>HHI.out y W HM.out
    generalize fM l y.p=hd at A0 HSE;cases hd with
    | true=>
     have HS:ax (jK l (t.take (k+1))=r):=by show _=_;rw[uY.out,HSE.out];simp
     go_wp2_with (first
      | (go_at_call 76;refine gI.mono ?_;clear gI;rintro rr w2 ⟨rfl,fC⟩;obtain⟨⟨d0,d1,d2,d3⟩,_⟩:=iv (by simp) fC;have BX:=fC.size;simp at BX;have Sm : wr.heap.size ≠ w2.heap.size:=by omega
         have rT:wr.heap.size<w2.heap.size:=by omega
         have nN:ax (au wr wr (w2.alloc (aM #[ai xp,aa ag xk,ai xt,aq xo] 88))):=pA (fC.alloc fC.size _);clear fC)
      | (go_at_call 156;refine(A0 _ (Below.bK BW.out nN.out)).mono ?_;clear A0;rintro rr w3 ⟨rfl,wK⟩;have mm:ax (au wr wr w3):=Below.bK nN.out wK.below;clear wK))
     go_roundg (n-(k+1))
     case measure=>omega
     case rel=>exact⟨k+1,r,by omega,by omega,by go_num,by omega,ST.below mm.out,Below.bK BW.out mm.out,HS.symm⟩
    | false=>
     have HS:ax (jK l (t.take (k+1))=r++[y]):=by show _=_;rw[uY.out,HSE.out];simp
     go_wp2_with (first
      | (go_at_call 76;refine gI.mono ?_;clear gI;rintro rr w2 ⟨rfl,fC⟩;obtain⟨⟨d0,d1,d2,d3⟩,_⟩:=iv (by simp) fC;have BX:=fC.size;simp at BX;have Sm : wr.heap.size ≠ w2.heap.size:=by omega
         have rT:wr.heap.size<w2.heap.size:=by omega
         have nN:ax (au (wr.alloc (aM #[ai y.bm, aa ag y.bE, ai y.text, aq y.opq] 88)).heap.size (wr.alloc (aM #[ai y.bm, aa ag y.bE, ai y.text, aq y.opq] 88)) (w2.alloc (aM #[ai xp,aa ag xk,ai xt,aq xo] 88))):=fC.alloc fC.size _;clear fC)
      | (go_at_call 156;refine(A0 _ (Below.bK BW.out (pA nN.out))).mono ?_;clear A0;rintro rr w3 ⟨rfl,wK⟩;have eG:=nN.trans (wK.below.mono nN.size);clear wK d0 d1 d2 d3;obtain⟨⟨d0,d1,d2,d3⟩,_⟩:=iv (by simp) eG;have mm:ax (au wr wr w3):=pA eG;have Sv:=eG.size;simp at Sv;clear eG;have Ck:=ST.below mm.out)
      | (at_builtin;refine gS w3 y rfl _ _ rfl w _ r rfl Ck (by omega) (by omega) _ (by simp) rfl ?_;clear Ck;intro v4 w4 uW eO F1 Qz;have Kj:ax (Rows w4 w v4 (r++[y])):=uW;have kT:ax (au w w w4):=(Below.bK BW.out mm.out).trans eO;clear uW eO F1))
     go_roundg (n-(k+1))
     case measure=>omega
     case rel=>exact⟨k+1,r++[y],by omega,by omega,by go_num,by simp;omega,Kj.out,kT.out,HS.symm⟩
  ·have eN:¬ (k:aF)<(n:aF):=by omega
   have HE:ax (jK l t=r):=by show _=_;rw[NM.out,cz (by have:=HN.out;omega)]
   go_wp2;go_ret;exact⟨⟨_,rfl,by rw[HE.out];exact ST.out⟩,BW.out⟩
theorem Es(w:aw):ay aP 199 #[ah aN 0 0,aa ag 0,aa ag 0,.func (.func 114) #[] #[]] w fun e w'=>e=aK (aL #[])/\w'=w:=by
 go_enter func199,ntmps199;go_wp2;go_loopg [8] 1 (fun gg i wr=>i=aa ag 1/\wr=w)
 case atStart=>exact⟨rfl,rfl⟩
 case round =>obtain⟨rfl,rfl⟩:=hrel;go_wp2;go_end0;exact⟨rfl,rfl⟩
theorem V4(k:aF)(w:aw):ay aP 157 #[ah aN 0 0,aa ag 0,aa ag 0,aa ag k,.func (.func 114) #[] #[]] w fun e w'=>e=aK (aL #[])/\w'=w:=by
 have hi:=Es;go_enter func157,ntmps157;go_wp2;go_loopg [1,2] 1 (fun gg a b wr=>a=aa ag 0/\b=aa ag 0/\wr=w)
 case atStart=>exact⟨rfl,rfl,rfl⟩
 case round=>
  obtain⟨rfl,rfl,rfl⟩:=hrel;go_wp2_with (go_at_call 199;refine(hi _).mono ?_;rintro e w' ⟨rfl,hw⟩;subst hw);try simp only[Exit.inBlock,Exit.then]
  refine ba (eC rfl _ _ _) rfl ?_;exact⟨rfl,rfl⟩
theorem TP(w:aw):ay aP 113 #[ah aN 0 0,.func (.func 114) #[] #[]] w fun e w'=>e=aK (aL #[])/\w'=w:=by
 have hl:ay aP 158 #[.int .u64 0] w fun e w'=>e=aK (aa ag (Lib.bitLen 0:aE))/\w'=w:=by have h:=Any.bits_Len (SlLaysF0.n15.bits Tryz.bitsE) 0 w (by omega) (by omega);exact h
 have hp:=V4 (Lib.bitLen 0:aE) w;generalize ((Lib.bitLen 0:aE):aF)=k at hl hp;go_enter func113,ntmps113;go_wp2_with (first|(go_at_call 158;refine hl.mono ?_;rintro e wx ⟨rfl,Hh⟩;subst wx)|(go_at_call 157;refine hp.mono ?_;rintro e w' ⟨rfl,hw⟩;subst hw));go_end0;exact⟨rfl,rfl⟩
theorem DP(t:aB bP)(m:aF)(p:aC aJ)(cap:aE)(w:aw)(hL:bI w p t)(hF:anM t)(hn:t.length<4611686018427387904)(ir:t.length<=cap)(hm:w.cell? ⟨0,0,aN⟩=aO (aa ag m)):ay aP 66 #[ah p t.length cap] w fun r w'=>r=aK (ar #[aa ag (cV aI t).1,aa ag ((cV aI t).2:aE)])/\au w w w':=by
 have hs:=fun W (hB:au w.heap.size w W)=>vG t aI m p cap W (hL.bB hB) hF hn ir (held hB hm)
 generalize (cV aI t).1=a at hs ⊢;generalize ((cV aI t).2:aF)=b at hs ⊢;go_enter func66,ntmps66;go_wp2_with (go_at_call 107;refine(hs _ ((aR _ _).alloc (aV _) _)).mono ?_;clear hs;rintro rr w1 ⟨rfl,fg⟩;obtain⟨⟨r0,r1⟩,⟨f0,f1⟩⟩:=nw (by simp) fg);refine ba (v:=ar #[aa ag a,aa ag b]) (by simp[results,results66,go_sem,r0,r1]) rfl ?_;exact⟨rfl,iI (fg.mono (by simp)) _ _⟩
theorem vQ(t:aB bP)(m:aF)(p:aC aJ)(cap:aE)(w:aw)(hL:bI w p t)(hF:anM t)(hn:t.length<4611686018427387904)(ir:t.length<=cap)(hm:w.cell? ⟨0,0,aN⟩=aO (aa ag m)):ay aP 39 #[ah p t.length cap] w fun r w'=>r=aK (ar #[aa ag (cV aI t).1,aa ag ((cV aI t).2:aE)])/\au w w w':=by
 have hs:=fun W (hB:au w.heap.size w W)=>DP t m p cap W (hL.bB hB) hF hn ir (held hB hm)
 generalize (cV aI t).1=a at hs ⊢;generalize ((cV aI t).2:aF)=b at hs ⊢;go_enter func39,ntmps39;go_wp2_with (go_at_call 66;refine(hs _ ((aR _ _).alloc (aV _) _)).mono ?_;clear hs;rintro rr w1 ⟨rfl,fg⟩;obtain⟨⟨r0,r1⟩,⟨f0,f1⟩⟩:=nw (by simp) fg);refine ba (v:=ar #[aa ag a,aa ag b]) (by simp[results,results39,go_sem,r0,r1]) rfl ?_;exact⟨rfl,iI (fg.mono (by simp)) _ _⟩
theorem rZ{ops:Array Oper}{rest:aB Oper}{o:Oper}{a:Act}{Q:Exit->Act->aw->Prop}(X:aw)(ly:o.guard=aN)(s x:Operand)(ho:o.op=.call { callee:=.builtin .append,args:=#[s,x],argTypes:=#[23,23] })(aS:aE)(v:az)(l:aB bP)(hs:a.eval s=v)(jF:Rows X aS v l)(hlen:l.length<=80)(eD:aS<=X)(p:aC aJ)(n cap:aE)(t:aB bP)(hx:a.eval x=ah p n cap)(hn:n=t.length)(hL:bI X p t)(iR:p=aN->cap=0)(oq:n<=80)(h:∀ v' w',Rows w' aS v' (l++t)->au aS X w'->wpList aP ops Q rest (a.put o.dst v') w'):wpList aP ops Q (o::rest) a X:=by
 obtain⟨i0,hi,ou,mL,mh⟩:=ue;cases p with
 | none=>
  obtain rfl:cap=0:=iR rfl;have ht:t=[]:=by
   rcases hL with h|⟨b,off,he,_⟩
   ·exact h
   ·cases he
  subst ht;obtain rfl:n=0:=hn;refine wpList_append_own_none ly s x 23 ho aS 88 i0 4 underlying23 hi v l.length (l.flatMap fy) hs jF hx ?_;exact h v X (by rw[fj];exact jF) (aR _ _)
 | some ad =>refine dP X ly s x 23 ho aS 88 i0 _ 4 48 underlying23 hi ou mL mh rfl (by decide) v l.length (l.flatMap fy) hs jF ad n cap (t.flatMap fy) hx (by rw[iY,hn]) (hL.flat (aR _ _)) (fun u hu=>kA hu) (by unfold maxLen;omega) (by omega) eD ?_;intro v' w' gG hg _;refine h v' w' ?_ ((aR aS X).grown hg eD (fun j hj=>(gQ jF j hj).1));unfold Rows;rw[cJ,uZ,<- hn];exact gG
def gp(err:aF)(l:aB bP)(w:aw)(e:Ending)(w':aw):Prop:=
 ∃ p c,e=aK (aL #[ah p l.length c,aa ag err])/\bI w' p l/\l.length<=c/\(p=aN->c=0)/\au w w w'/\∀ b off s,p=aO ⟨b,off,s⟩->w.heap.size<=b
theorem gp.none{err:aF}(hB:au w w w'):gp err [] w (aK (aL #[ah .none 0 0,aa ag err])) w':=⟨.none,0,rfl,bI.nil _ _,aV _,fun _=>rfl,hB,nofun⟩
theorem gp.tree{err:aF}{e:Ending}(h:gp err l w e w'):iB err l w e w':=by obtain⟨p,c,h1,h2,h3,h4,h5,_⟩:=h;exact⟨p,c,h1,h2,h3,h4,h5⟩
theorem P4{w7:aw}(h:Rows w7 w v (jg l++jK l t))(hP:∀ e∈jg l++jK l t,e.bm.size<=maxLen)(oq:(jg l++jK l t).length<=80)(hB:au w w w7)(hl:b7 l)(ht:b7 t):∃ p c,v=ah p (jg l++jK l t).length c/\(jg l++jK l t).length<=c/\(p=aN->c=0)/\(∀ b off s,p=aO ⟨b,off,s⟩->w.heap.size<=b) /\
   ay aP 113 #[ah p (jg l++jK l t).length c,.func (.func 114) #[] #[]] w7 fun e w8=>e=aK (aL #[])/\bI w8 p (lq l t)/\au w w w8:=by
 by_cases hv:v=ah aN 0 0
 ·obtain⟨p,c,UF,hL,hc,hn⟩:=h.form
  rw[hv]at UF;have h0:(jg l++jK l t).length=0:=by injection UF with _ h _;exact h.symm
  have hp:p=aN:=by injection UF with h _ _;exact h.symm
  have IE:c=0:=hn hp;subst hp IE;have he:=bX h0;refine⟨aN,0,by rw[hv,h0],by omega,fun _=>rfl,nofun,?_⟩;rw[h0];refine(TP w7).mono ?_;rintro e w8 ⟨rfl,rfl⟩;have:lq l t=[]:=(NH hl ht (r:=[]) (by rw[he]) yA).symm;rw[this];exact⟨rfl,bI.nil _ _,hB⟩
 ·obtain⟨g,c,e,hg,ho⟩:=Own.pS h hv rfl
  refine⟨_,c,e,ho.len,nofun,fun b off s he=>by cases he;exact hg,?_⟩;refine(zG _ g c w7 ho hP oq).mono ?_;rintro e w8 ⟨rfl,l',hp,hs,hL,hG⟩;rw[NH hl ht hp hs]at hL;exact⟨rfl,hL,hB.grown hG hB.size (fun k hk=>by cases hk;exact hg)⟩
theorem Td(l t:aB bP)(m:aF)(pl p:aC aJ)(nR cap:aE)(w:aw)(Iz:bI w pl l)(hL:bI w p t)(G7:anM l)(hF:anM t)(eK:l.length<4611686018427387904)(hn:t.length<4611686018427387904)(E6:l.length<=nR)(ir:t.length<=cap)(hm:w.cell? ⟨0,0,aN⟩=aO (aa ag m)):ay aP 68 #[ah pl l.length nR,ah p t.length cap] w (gp (gH l t) (if gH l t=0 then lq l t else[]) w):=by
 have yF:=fun W (hB:au w.heap.size w W)=>vQ l m pl nR W (Iz.bB hB) G7 eK E6 (held hB hm)
 have xH:=fun W (hB:au w.heap.size w W)=>pW t m p cap W (hL.bB hB) hF hn ir (held hB hm)
 have hB:au w w w:=aR _ _;have Gc:=wG;obtain⟨er,hE⟩:=ee (gH l t)
 obtain⟨rl,hl⟩:∃ rl,rl=if gH l t=0 then lq l t else[]:=⟨_,rfl⟩
 rw[<- hl,<- hE];by_cases h1:(cV aI l).1=0
 ·by_cases h2:(cV aH t).1=0
  ·have ZF:=fO.1 h1
   have QN:=fO.1 h2;have rS:=ZF.len;have Aq:=QN.len;have how:=fun W (hB:au w.heap.size w W)=>V2 l pl nR W (Iz.bB hB) rS
   have hth:=fun W (hB:au w.heap.size w W)=>JR l t pl p nR cap W (Iz.bB hB) (hL.bB hB) G7 hF ZF.anF rS Aq
   have HS:ax (b7 l/\b7 t):=⟨ZF.anF,QN.anF⟩
   have abT:(jg l).length<=80:=by have:=zx l l.length;rw[gh]at this;omega
   have abB:(jK l t).length<=80:=by have:=EA l t t.length;rw[gh]at this;omega
   have HP:ax (∀ e∈jg l++jK l t,e.bm.size<=maxLen):=fun e he=>by
    rcases bZ.1 he with he|he
    ·obtain⟨y,hy,_,rfl⟩:=j7.1 he
     exact(G7 y hy).1
    ·exact(hF e (jU.1 he).1).1
   have HN:ax (tu l t=(jg l++jK l t).length):=rfl;have WD:er=if 80<tu l t then 5 else 0:=by rw[hE,gH,aY h1,aY h2]
   have HRL:ax (rl=if er=0 then lq l t else[]):=by show _=_;rw[hl,hE]
   have WC:ax (tu l t=(lq l t).length):=(zu ZF.anF QN.anF).symm;rw[iD ZF]at yF;rw[iD QN]at xH;clear hl hE h1 h2 ZF QN Iz hL G7 hF hm;obtain⟨n,Co⟩:=ee t.length
   obtain⟨nl,C8⟩:=ee l.length
   rw[<- Co]at xH hth;rw[<- C8]at yF how hth;rw[<- Co,<- C8];clear Co C8 E6 ir hn eK rS Aq;by_cases hN:80<tu l t
   ·have HZ:ax (er=5/\rl=[]):=by rw[aY hN]at WD;exact⟨WD,by rw[HRL.out,WD];rfl⟩
    have hNz:(80:aF)<((tu l t:aE):aF):=by omega
    clear WD;go_enter func68,ntmps68;go_wp2_with (first
     | (go_at_call 39;refine(yF _ hB).mono ?_;clear yF;rintro e w1 ⟨rfl,zM⟩;replace hB:=Below.bK hB zM;clear zM)
     | (go_at_call 110;refine(xH _ hB).mono ?_;clear xH;rintro e w2 ⟨rfl,rB⟩;replace hB:=Below.bK hB rB;clear rB)
     | (go_at_call 109;refine(nQ _ _ _).mono ?_;rintro e w4 ⟨rfl,hw⟩;subst hw;replace hB:=hB.alloc hB.size (aM #[aa ag 0,aa ag 0] 31);rw[show kb [0,0]=0 from rfl])
     | (go_at_call 111;refine(how _ hB).mono ?_;clear how;rintro e w5 ⟨⟨v5,rfl,BN⟩,xS⟩;replace BN:=BN.mono hB.size;replace hB:=Below.bK hB xS;clear xS)
     | (go_at_call 112;refine(hth _ hB).mono ?_;clear hth;rintro e w6 ⟨⟨v6,rfl,OV⟩,CX⟩;replace BN:=BN.below CX;replace hB:=Below.bK hB CX;clear CX;obtain⟨p6,c6,rfl,hL6,hc6,hn6⟩:=OV.form;clear OV)
     | (at_builtin;refine rZ w6 rfl _ _ rfl w _ (jg l) rfl BN abT hB.size p6 _ c6 (jK l t) rfl rfl hL6 hn6 abB ?_;intro v7 w7 KT ie;replace hB:=hB.trans ie;clear ie BN hL6;obtain⟨p7,c7,rfl,hL7,hc7,hn7⟩:=KT.form;rw[<- HN.out]at hc7 ⊢))
    go_ret2;rw[HZ.1,HZ.2];exact gp.none hB
   ·have HZ:ax (er=0/\rl=lq l t):=by rw[aW hN]at WD;exact⟨WD,by rw[HRL.out,WD];rfl⟩
    have hNz:¬ (80:aF)<((tu l t:aE):aF):=by omega
    clear WD;go_enter func68,ntmps68;go_wp2_with (first
     | (go_at_call 39;refine(yF _ hB).mono ?_;clear yF;rintro e w1 ⟨rfl,zM⟩;replace hB:=Below.bK hB zM;clear zM)
     | (go_at_call 110;refine(xH _ hB).mono ?_;clear xH;rintro e w2 ⟨rfl,rB⟩;replace hB:=Below.bK hB rB;clear rB)
     | (go_at_call 109;refine(nQ _ _ _).mono ?_;rintro e w4 ⟨rfl,hw⟩;subst hw;replace hB:=hB.alloc hB.size (aM #[aa ag 0,aa ag 0] 31);rw[show kb [0,0]=0 from rfl])
     | (go_at_call 111;refine(how _ hB).mono ?_;clear how;rintro e w5 ⟨⟨v5,rfl,BN⟩,xS⟩;replace BN:=BN.mono hB.size;replace hB:=Below.bK hB xS;clear xS)
     | (go_at_call 112;refine(hth _ hB).mono ?_;clear hth;rintro e w6 ⟨⟨v6,rfl,OV⟩,CX⟩;replace BN:=BN.below CX;replace hB:=Below.bK hB CX;clear CX;obtain⟨p6,c6,rfl,hL6,hc6,hn6⟩:=OV.form;clear OV)
     | (at_builtin;refine rZ w6 rfl _ _ rfl w _ (jg l) rfl BN abT hB.size p6 _ c6 (jK l t) rfl rfl hL6 hn6 abB ?_;intro v7 w7 KT ie;replace hB:=hB.trans ie;clear ie BN hL6;obtain⟨p7,c7,rfl,hc7,hn7,af8,tI⟩:=P4 KT (HP.out) (by rw[<- HN.out];omega) hB HS.1 HS.2;rw[<- HN.out]at hc7 tI ⊢)
     | (go_at_call 113;refine tI.mono ?_;clear tI;rintro e w8 ⟨rfl,BM,Ee⟩))
    go_ret2;rw[HZ.1,HZ.2];exact⟨p7,c7,by rw[<- WC.out];rfl,BM,by rw[<- WC.out];exact hc7,hn7,Ee,af8⟩
  ·have HZ:ax (er=(cV aH t).1/\rl=[]):=by
    have:er=(cV aH t).1:=by rw[hE,gH,aY h1,aW h2]
    refine⟨this,?_⟩;rw[hl,<- hE,this,aW h2]
   rw[h1]at yF;generalize (cV aH t).1=f at xH h2 HZ;generalize ((cV aH t).2:aF)=fa at xH;generalize ((cV aI l).2:aF)=fb at yF;clear hl hE Iz hL G7 hF hm;obtain⟨n,Co⟩:=ee t.length
   obtain⟨nl,C8⟩:=ee l.length
   rw[<- Co]at xH;rw[<- C8]at yF;rw[<- Co,<- C8];clear Co C8 E6 ir hn eK;have HOR:ax (kb [0,f]=f):=by show _=_;rw[kb,aY rfl,kb];split<;>simp_all
   go_enter func68,ntmps68;go_wp2_with (first
    | (go_at_call 39;refine(yF _ hB).mono ?_;clear yF;rintro e w1 ⟨rfl,zM⟩;replace hB:=Below.bK hB zM;clear zM)
    | (go_at_call 110;refine(xH _ hB).mono ?_;clear xH;rintro e w2 ⟨rfl,rB⟩;replace hB:=Below.bK hB rB;clear rB)
    | (go_at_call 109;refine(nQ _ _ _).mono ?_;rintro e w4 ⟨rfl,hw⟩;subst hw;replace hB:=hB.alloc hB.size (aM #[aa ag 0,aa ag f] 31);rw[HOR.out]))
   go_ret2;rw[HZ.1,HZ.2];exact gp.none hB
 ·have HZ:ax (er=(cV aI l).1/\rl=[]):=by
   have:er=(cV aI l).1:=by rw[hE,gH,aW h1]
   refine⟨this,?_⟩;rw[hl,<- hE,this,aW h1]
  generalize (cV aH t).1=f at xH;generalize ((cV aH t).2:aF)=fa at xH;generalize (cV aI l).1=g at yF h1 HZ;generalize ((cV aI l).2:aF)=fb at yF;clear hl hE Iz hL G7 hF hm;obtain⟨n,Co⟩:=ee t.length
  obtain⟨nl,C8⟩:=ee l.length
  rw[<- Co]at xH;rw[<- C8]at yF;rw[<- Co,<- C8];clear Co C8 E6 ir hn eK;have HOR:ax (kb [g,f]=g):=by show _=_;rw[kb,aW h1]
  go_enter func68,ntmps68;go_wp2_with (first
   | (go_at_call 39;refine(yF _ hB).mono ?_;clear yF;rintro e w1 ⟨rfl,zM⟩;replace hB:=Below.bK hB zM;clear zM)
   | (go_at_call 110;refine(xH _ hB).mono ?_;clear xH;rintro e w2 ⟨rfl,rB⟩;replace hB:=Below.bK hB rB;clear rB)
   | (go_at_call 109;refine(nQ _ _ _).mono ?_;rintro e w4 ⟨rfl,hw⟩;subst hw;replace hB:=hB.alloc hB.size (aM #[aa ag g,aa ag f] 31);rw[HOR.out]))
  go_ret2;rw[HZ.1,HZ.2];exact gp.none hB
open Go.Shelf
attribute [local go_sem] Oper.semAt_some
structure Lay where
 ad:aC aJ
 cap:aE
 es:aB bP
def Qn(n₀ Bs:aE)(A B:aw):Prop:=au n₀ A B/\∀ v,A.cell? Bs=aO v->B.cell? Bs=aO v
theorem Qn.refl(n₀ Bs:aE)(A:aw):Qn n₀ Bs A A:=⟨aR _ _,fun _ h=>h⟩
theorem Qn.trans{n₀ Bs:aE}{A B C:aw}(h:Qn n₀ Bs A B)(k:Qn n₀ Bs B C):Qn n₀ Bs A C:=⟨h.1.trans k.1,fun v hv=>k.2 v (h.2 v hv)⟩
theorem FT(F:Fence)(n:aE)(h7:F.fn 108)(hro:F.round=aN)(l Bs:aE)(a:aC aJ)(cap:aE)(W:aw)(Ui:W.cell? Bs=aO (ah a 0 cap)):CallsIn F n aP 108 #[.func (.yield l) #[] #[],aj (aO Bs)] W fun e W'=>(∃ v,e=aK v)/\W'=W:=by
 refine ado func108 rfl h7 ?_ hro;simp only[ntmps108,ju,cj,ib,Nat.reduceAdd,Nat.reduceSub,o8,o9,rO,qa,fo,fF]
 gi_wp2
 gi_loopw [3] (fun i wr=>i=aa ag (-1)/\wr=W) (fun _ _=>0)
 case atStart=>exact⟨rfl,rfl⟩
 case round=>
  obtain⟨rfl,rfl⟩:=hrel
  gi_wp2
  go_end0;exact⟨⟨_,rfl⟩,rfl⟩
theorem QZ{α:Type}(f:α->aE × Lay)(F:Fence)(n:aE)(h7:F.fn 108)(hro:F.round=aN)(hn:1<=n)(l Bs n₀ b off cap N:aE)(us:aB α)(hN:N=us.length)(oq:N<=80)(hb:b<n₀)(J Jx:aB α->aw->Prop)(hY:∀ pre x W,J pre W->pre.length<N->YieldAt F (n-1) aP l #[aa ag ((f x).1:aF),ah (f x).2.ad (f x).2.es.length (f x).2.cap] W fun e W' => (e=aK (aq aI)/\J (pre++[x]) W'/\Qn n₀ Bs W W')\/(e=aK (aq aH)/\Jx (pre++[x]) W'))(W:aw)(Ui:W.cell? Bs=aO (ah (aO ⟨b,off,aN⟩) N cap))(hc:∀ k x,us[k]?=aO x->(f x).1=N-1-k/\W.cell? ⟨b,off+(N-1-k),aN⟩=aO (ah (f x).2.ad (f x).2.es.length (f x).2.cap))(h0:J [] W):CallsIn F n aP 108 #[.func (.yield l) #[] #[],aj (aO Bs)] W fun e W'=>(∃ v,e=aK v) /\
   ((∃ ys,ys=us/\J ys W')\/(∃ pre,(∃ k,k<=N/\pre=us.take k)/\Jx pre W')):=by
 refine ado func108 rfl h7 ?_ hro;simp only[ntmps108,ju,cj,ib,Nat.reduceAdd,Nat.reduceSub,o8,o9,rO,qa,fo,fF];have Xk:IntKind.i64.wrap ((N:aF)-1)=(N:aF)-1:=by simp[IntKind.wrap,IntKind.bits,IntKind.signed];omega
 gi_wp2
 gi_loopw [3] (fun i wr=>∃ k:aE,k<=N/\i=aa ag ((N:aF)-1-k)/\J (us.take k) wr/\Qn n₀ Bs W wr) (fun i _=>(intOf i+1).toNat)
 case atStart=>exact⟨0,bF _,by simp[hN],by simpa using h0,Qn.refl _ _ _⟩
 case round=>
  obtain⟨k,hk,rfl,WT,hnx⟩:=hrel;by_cases gm:k<N
  ·obtain⟨x,hx⟩:∃ x,us[k]?=aO x:=⟨_,aU (by omega)⟩
   obtain⟨VB,afA⟩:=hc k x hx;have Us:=(hnx.1.cell (p:=⟨b,off+(N-1-k),aN⟩) hb).trans afA;have hbx:=hnx.2 _ Ui;obtain⟨fn,tmps,assign,body,hy,hR⟩:=hY _ x wr WT (by rw[bL];omega);have ik:us.take k++[x]=us.take (k+1):=by obtain⟨h1,h2⟩:=aQ.1 hx;rw[dC h1,h2]
   rw[ik]at hR;rw[VB]at hy;obtain⟨j,hj⟩:=o7 (N-1-k)
   have O6:(N:aF)-1-k=(j:aF):=by omega
   have hjN:j<N:=by omega
   have akR:(j:aF)<(N:aF):=by omega
   have hj0:(0:aF)<=(j:aF):=by omega
   have hwj:IntKind.i64.wrap ((j:aF)-1)=(j:aF)-1:=by simp[IntKind.wrap,IntKind.bits,IntKind.signed];omega
   rw[hj]at Us hy;rw[O6]
   gi_wp2
   refine hR.mono ?_;rintro e W3 (⟨rfl,hJ3,Cn⟩|⟨rfl,afd⟩)
   ·gi_wp2
    go_roundw
    case rel=>exact⟨k+1,by omega,by congr 1<;>omega,hJ3,hnx.trans Cn⟩
    case measure=>simp[intOf]
   ·gi_wp2
    refine ba (eC rfl _ _ _) rfl ?_;exact⟨⟨_,rfl⟩,.inr ⟨_,⟨k+1,by omega,rfl⟩,afd⟩⟩
  ·obtain rfl:k=N:=by omega
   have O6:(k:aF)-1-k = -1:=by omega
   rw[O6]
   gi_wp2
   go_end0;refine⟨⟨_,rfl⟩,.inl ⟨_,rfl,?_⟩⟩;rw[hN,gh]at WT;exact WT
theorem Va(F:Fence)(n:aE)(h5:F.fn 67)(hro:F.round=aN)(a:aC aJ)(len cap:aE)(w:aw):CallsIn F n aP 67 #[ah a len cap] w fun e w'=>e=aK (.func (.func 108) #[] #[aj (aO w)])/\w'=w.alloc (aM #[ah a len cap] 24):=by
 refine ado func67 rfl h5 ?_ hro;simp only[ntmps67,ju,cj,ib,Nat.reduceAdd,Nat.reduceSub,o8,o9,rO,qa,fo,fF]
 gi_wp2
 go_ret;exact⟨rfl,rfl⟩
def Ke{α:Type}(f:α->aE × Lay)(us:aB α)(W:aw)(a:aC aJ)(n₀ N:aE):Prop:=
 N=us.length/\(us=[]\/∃ b off,a=aO ⟨b,off,aN⟩/\b<n₀/\∀ k x,us[k]?=aO x->(f x).1=N-1-k/\W.cell? ⟨b,off+(N-1-k),aN⟩=aO (ah (f x).2.ad (f x).2.es.length (f x).2.cap))
theorem Kw{α:Type}(f:α->aE × Lay)(F:Fence)(n:aE)(h7:F.fn 108)(hro:F.round=aN)(hn:1<=n)(Bs n₀ N cap:aE)(a:aC aJ)(us:aB α)(oq:N<=80)(w:aw)(Ui:Bs<w)(hn₀:n₀<=w)(hc:w.cell? Bs=aO (ah a N cap))(hI:Ke f us w a n₀ N):SeqStopsK F n aP 108 #[aj (aO Bs)] (fun x:α=>#[Value.int .i64 ((f x).1:aF),ah (f x).2.ad (f x).2.es.length (f x).2.cap]) (Qn n₀ Bs) (fun ys=>ys=us)
   (fun pre=>∃ k,k<=N/\pre=us.take k) N w:=fun l J Jx W hW _ _ hY h0=>by
 have Hd:=(hW.cell (p:=Bs) Ui).trans hc;obtain⟨hN,rfl|⟨b,off,rfl,hb,hcs⟩⟩:=hI
 ·obtain rfl:N=0:=hN
  exact(FT F n h7 hro l Bs a cap W Hd).mono fun e W' ⟨he,hw⟩=>⟨he,.inl ⟨_,rfl,by rw[hw];exact h0⟩⟩
 ·exact QZ f F n h7 hro hn l Bs n₀ b off cap N us hN oq hb J Jx hY W Hd (fun k x hx=>⟨(hcs k x hx).1,((hW.mono hn₀).cell (p:=⟨b,off+(N-1-k),aN⟩) hb).trans (hcs k x hx).2⟩) h0
theorem acy{n₀ Bs:aE}(h:n₀<=w):∀ (W:aw) (l:aE) (o o':Obj),w.heap.size<=l->W.heap[l]?=aO o->o.isCells=aH->o.isWalk=aH->Qn n₀ Bs W (W.putObj l o'):=fun W l o o' h1 h2 h3 h4=>
 ⟨belowK_b h W l o o' h1 h2 h3 h4,fun v hv=>cell_kept hv (grownBy_putObj' W l o') (fun r e=>by cases e;exact⟨o,h2,h3⟩)⟩
attribute [local go_sem] Oper.semAt_some
def gj(w:aw)(p:aC aJ)(ls:aB Lay):Prop:=ls=[]\/∃ b off,p=aO ⟨b,off,aN⟩/\b<w.heap.size/\∀ j x,ls[j]?=aO x->w.cell? ⟨b,off+j,aN⟩=aO (ah x.ad x.es.length x.cap)
structure jP (w:aw) (x:Lay):Prop where
 anO:bI w x.ad x.es
 fits:anM x.es
 cap:x.es.length<=x.cap
 small:x.es.length<4611686018427387904
theorem jP.bB{x:Lay}(h:jP w x)(hB:au w w W):jP W x:=⟨h.anO.bB hB,h.fits,h.cap,h.small⟩
abbrev Al(w:aw):Type:={ x:aE × Lay // jP w x.2 }
def nF(pre:aB (Al w)):aB (aB bP):=(pre.map fun x=>x.1.2.es).reverse
theorem OD(pre:aB (Al w))(x:Al w):nF (pre++[x])=x.1.2.es::nF pre:=by simp[nF]
def ED(ls:aB Lay)(h:∀ x∈ls,jP w x):aB (Al w):=List.ofFn fun k:Fin ls.length=>⟨(ls.length-1-k,ls[ls.length-1-k]'(by have:=k.2;omega)),h _ (jb _)⟩
theorem JV(ls:aB Lay)(h:∀ x∈ls,jP w x):(ED ls h).length=ls.length:=by simp[ED]
theorem NS{ls:aB Lay}{h:∀ x∈ls,jP w x}{x:Al w}(hx:(ED ls h)[k]?=aO x):x.1.1=ls.length-1-k/\ls[ls.length-1-k]?=aO x.1.2:=by
 unfold ED at hx;rw[List.getElem?_ofFn]at hx;split at hx
 ·rename_i hk
  cases hx;exact⟨rfl,aU _⟩
 ·cases hx
theorem Wr(ls:aB Lay)(h:∀ x∈ls,jP w x):nF (ED ls h)=ls.map (·.es):=by
 unfold nF;apply List.ext_getElem
 ·simp[ED]
 ·intro i h1 h2
  simp[ED]at h1 h2;simp[ED];congr 2;omega
theorem yh:∀ {a r:aB (aB bP)},¬ (bG r).1=0->bG (a++r)=((bG r).1,[])
 | [],r,h=>by have:=A6 h;exact Ks rfl this
 | x::a,r,h=>by have ih:=yh (a:=a) h;show bG (x::(a++r))=_;rw[yi (by rw[ih];exact h),ih]
theorem lJ(h:du aH t):anM t:=fun e he=>by
 have hw:=h.each e he;have h1:=fG (dX hw);have h2:e.text.size<=100:=by
  unfold dv at hw;split at hw
  ·cases hw
  ·split at hw
   ·cases hw
   ·split at hw
    ·cases hw
    ·omega
 unfold maxLen;omega
theorem bI.oa{p:aC aJ}(h:bI W p t)(a:aJ)(v:az)(hne:∀ b off s,p=aO ⟨b,off,s⟩->a.block≠b):bI (W.setCell a v) p t:=by
 rcases h with h|⟨b,off,rfl,hb,hc⟩
 ·exact .inl h
 ·refine .inr ⟨b,off,rfl,by simpa using hb,fun j e he i v' hv=>?_⟩
  rw[World.cell?_setCell_far _ _ _ _ (hne b off aN rfl)];exact hc j e he i v' hv
theorem bI.SP{W':aw}{p:aC aJ}{row:aC aE}(h:bI W p t)(hg:W.grownBy W' row)(hr:∀ r,row=aO r->∃ o:Obj,W.heap[r]?=aO o/\o.isCells=aH):bI W' p t:=by
 rcases h with h|⟨b,off,rfl,hb,hc⟩
 ·exact .inl h
 ·exact .inr ⟨b,off,rfl,aZ hb hg.size,fun j e he i v' hv=>cell_kept (hc j e he i v' hv) hg hr⟩
theorem vP{W':aw}(h:au W W W'):KeepsOthers W W':=⟨h.size,fun k o hk _=>(h.block k (aX.1 hk).1).trans hk⟩
theorem sQ{W2:aw}(h:au W W W2){a:aJ}(hc:W.cell? a=aO v)(hf:W.frozen? a=aH):W2.cell? a=aO v/\W2.frozen? a=aH:=
 ⟨(h.cell (bg hc)).trans hc,(dU (h.block a.block (bg hc))).trans hf⟩
theorem L0(m:aF)(x:Al w)(pre:aB (Al w))(pT:aC aJ)(cT:aE)(hB:au w w W)(h0:(bG (nF pre)).1=0)(hL:bI W pT (bG (nF pre)).2)(hc:(bG (nF pre)).2.length<=cT)(hm:w.cell? ⟨0,0,aN⟩=aO (aa ag m)):ay aP 68 #[ah x.1.2.ad x.1.2.es.length x.1.2.cap,ah pT (bG (nF pre)).2.length cT] W (gp (bG (nF (pre++[x]))).1 (bG (nF (pre++[x]))).2 W):=by have hr:=lQ h0;have hx:=x.2.bB hB;have:=Td x.1.2.es (bG (nF pre)).2 m x.1.2.ad pT x.1.2.cap cT W hx.anO hL hx.fits (lJ hr) hx.small (by have:=hr.len;omega) hx.cap hc (held hB hm);rw[OD,rj h0];exact this
theorem LC(n:aE)(h5:5<n)(p:aC aJ)(cap:aE)(w:aw):ay aP 40 #[ah p n cap] w (gp 5 [] w):=by
 have h5z:(5:aF)<(n:aF):=by omega
 refine(Qp (n:=3)).1 ?_;refine callsIn_of_wp_marks func40 rfl trivial ?_ rfl;simp only[ntmps40,ju,cj,ib,Nat.reduceAdd,Nat.reduceSub,o8,o9,rO,qa,fo,fF]
 gi_wp2
 refine⟨.tuple #[ah aN 0 0,aa ag 5],?_,gp.none (((aR _ w).alloc (aV _) _).alloc (by simp) _)⟩;simp[results,results40,go_sem]
theorem Pu(ls:aB Lay)(m:aF)(p:aC aJ)(cap:aE)(w:aw)(hT:gj w p ls)(zd:∀ x∈ls,jP w x)(h5:ls.length<=5)(hm:w.cell? ⟨0,0,aN⟩=aO (aa ag m)):ay aP 40 #[ah p ls.length cap] w (gp (bG (ls.map (·.es))).1 (bG (ls.map (·.es))).2 w):=by
 have h5z:¬ (5:aF)<(ls.length:aF):=by omega
 have Uv:=Wr ls zd;have hBK:Ke (fun x:Al w=>x.1) (ED ls zd) w p w.heap.size ls.length:=by
  refine⟨(JV ls zd).symm,?_⟩;rcases hT with h|⟨b,off,hp,hb,hc⟩
  ·left
   apply bX;rw[JV,h];rfl
  ·exact .inr ⟨b,off,hp,hb,fun k x hx=>⟨(NS hx).1,hc _ _ (NS hx).2⟩⟩
 generalize ED ls zd=us at Uv hBK;rw[<- Uv];generalize ls.length=N at h5 h5z hBK;clear Uv hT zd;refine(Qp (n:=3)).1 ?_;refine callsIn_of_wp_marks func40 rfl trivial ?_ rfl;simp only[ntmps40,ju,cj,ib,Nat.reduceAdd,Nat.reduceSub,o8,o9,rO,qa,fo,fF]
 gi_wp2_with (refine⟨trivial,?_⟩;gi_at_call 67;refine(Va Fence.wide _ trivial rfl _ _ _ _).mono ?_;rintro e w' ⟨rfl,rfl⟩)
 have bR0:=Boxed.new w 23 (ah aN 0 0);have bR1:=Boxed.new (w.alloc (aM #[ah aN 0 0] 23)) 31 (aa ag 0);have bT:=Boxed.new ((w.alloc (aM #[ah aN 0 0] 23)).alloc (aM #[aa ag 0] 31)) 23 (ah aN 0 0);have bN:=Boxed.new (((w.alloc (aM #[ah aN 0 0] 23)).alloc (aM #[aa ag 0] 31)).alloc (aM #[ah aN 0 0] 23)) 24 (ah p N cap);simp only[cE]at bR1 bT bN;obtain⟨W0,rQ⟩:=o7 ((((w.alloc (aM #[ah aN 0 0] 23)).alloc (aM #[aa ag 0] 31)).alloc (aM #[ah aN 0 0] 23)).alloc (aM #[ah p N cap] 24))
 have ph:au w w W0:=by rw[<- rQ];exact((((aR _ w).alloc (aV _) _).alloc (by simp) _).alloc (by simp;omega) _).alloc (by simp;omega) _
 have Da:W0.heap.size=w.heap.size+4:=by rw[<- rQ];simp
 have b0:Boxed W0 w 23 (ah aN 0 0):=by rw[<- rQ];exact((bR0.alloc _).alloc _).alloc _
 have b1:Boxed W0 (w.heap.size+1) 31 (aa ag 0):=by rw[<- rQ];exact(bR1.alloc _).alloc _
 have b2:Boxed W0 (w.heap.size+1+1) 23 (ah aN 0 0):=by rw[<- rQ];exact bT.alloc _
 have b3:W0.cell? ⟨↑w+1+1+1,0,aN⟩=aO (ah p N cap):=by rw[<- rQ];exact bN.cell
 have ae6:Ke (fun x:Al w=>x.1) us W0 p w.heap.size N:=by
  obtain⟨h1,h2|⟨b,off,hp,hb,hc⟩⟩:=hBK
  ·exact⟨h1,.inl h2⟩
  ·exact⟨h1,.inr ⟨b,off,hp,hb,fun k x hx=>⟨(hc k x hx).1,(ph.cell (p:=⟨b,off+(N-1-k),aN⟩) hb).trans (hc k x hx).2⟩⟩⟩
 rw[rQ];clear bR0 bR1 bT bN hBK;refine wpIn_rangeFunc_ownG rfl (by omega) (gf:=108) (lb:=#[aj (aO ⟨↑w+1+1+1,0,aN⟩)]) rfl trivial (enters_of func108 (by kernel_rfl) rfl)
  (Kw (fun x:Al w=>x.1) Fence.wide _ trivial rfl (by omega) (w.heap.size+1+1+1) w.heap.size N cap p us (by omega) W0 (by omega) (by omega) b3 ae6) Qn.trans (acy (by omega)) (aR _ _) (fun _=>rfl)
  (fun pre W=>((bG (nF pre)).1=0/\(W.cell? w=aO (ah aN 0 0)/\W.frozen? w=aH)/\(W.cell? ⟨↑w+1,0,aN⟩=aO (aa ag 0)/\W.frozen? ⟨↑w+1,0,aN⟩=aH) /\ ∃ pT cT,(W.cell? ⟨↑w+1+1,0,aN⟩=aO (ah pT (bG (nF pre)).2.length cT)/\W.frozen? ⟨↑w+1+1,0,aN⟩=aH)/\bI W pT (bG (nF pre)).2/\(bG (nF pre)).2.length<=cT/\(pT=aN->cT=0)/\∀ b off s,pT=aO ⟨b,off,s⟩->w.heap.size+3<=b)/\au w w W)
  (fun c pre W=>(c=.ret/\¬ (bG (nF pre)).1=0/\W.cell? w=aO (ah aN 0 0)/\W.cell? ⟨↑w+1,0,aN⟩=aO (aa ag (bG (nF pre)).1))/\au w w W)
  (OwnFrom.and (Own.from (fun s A B row hs hg hr=>⟨hs.1,⟨cell_kept hs.2.1.1 hg hr,(frozen_kept hs.2.1.1 hg hr).trans hs.2.1.2⟩,⟨cell_kept hs.2.2.1.1 hg hr,(frozen_kept hs.2.2.1.1 hg hr).trans hs.2.2.1.2⟩,by
    obtain⟨pT,cT,⟨e1,e2⟩,e3,e4⟩:=hs.2.2.2;exact⟨pT,cT,⟨cell_kept e1 hg hr,(frozen_kept e1 hg hr).trans e2⟩,e3.SP hg hr,e4⟩⟩) _) (ownFrom_below (aV _) (by omega)))
  (fun c=>OwnFrom.and (Own.from (fun s A B row hs hg hr=>⟨hs.1,hs.2.1,cell_kept hs.2.2.1 hg hr,cell_kept hs.2.2.2 hg hr⟩) _) (ownFrom_below (aV _) (by omega)))
  ⟨⟨rfl,⟨b0.cell,b0.frozen⟩,⟨b1.cell,b1.frozen⟩,aN,0,⟨b2.cell,b2.frozen⟩,bI.nil _ _,aV _,fun _=>rfl,nofun⟩,ph⟩
  (fun x=>{ tmps:=#[ah p N cap,undef,aj (aO w),aj (aO ⟨↑w+1,0,aN⟩),aj (aO ⟨↑w+1+1,0,aN⟩),undef,(ah x.1.2.ad x.1.2.es.length x.1.2.cap),undef,undef,ah p N cap,aa ag (N:aF),aq aH,ah p N cap,.func (.func 108) #[] #[aj (aO ⟨↑w+1+1+1,0,aN⟩)],aa ag (x.1.1:aF),(ah x.1.2.ad x.1.2.es.length x.1.2.cap),undef,undef,undef,undef,undef,undef,undef,undef,undef,undef,undef],defers:=[] }) ?assign ?body ?done ?stop
 case assign=>
  intro l x W K hK
  gi_wp2
  exact hK
 case body=>
  rintro l pre x W ⟨⟨hz,⟨r0,f0⟩,⟨r1,f1⟩,pT,cT,⟨t0,g0⟩,hLT,Z0,hnT,hbT⟩,hB⟩ _;have Eo:=L0 m x pre pT cT hB hz hLT Z0 hm;have hsW:=hB.size;generalize Sl:bG (nF (pre++[x]))=mp at Eo;generalize (bG (nF pre)).2.length=lT at t0 Eo Z0;have hTl:=bg t0;simp only at hTl;have aiq:w.heap.size≠w.heap.size+1+1:=by omega
  have air:w.heap.size+1≠w.heap.size+1+1:=by omega
  by_cases hmz:mp.1=0
  ·rw[hmz]at Eo
   gi_wp2_with (refine⟨trivial,?_⟩;gi_at_call 68;refine(CallsIn.inRound l (Qp.2 Eo)).mono ?_;clear Eo;rintro e W2 ⟨p2,c2,rfl,Uk,F9,VH,rB,j5⟩;obtain⟨r0',f0'⟩:=sQ rB r0 f0;obtain⟨r1',X6⟩:=sQ rB r1 f1;obtain⟨t0',g0'⟩:=sQ rB t0 g0)
   refine⟨((vP rB).trans (KeepsOthers.setCell _ _ _)).from _,⟨(rB.mono hsW).setCell (p:=⟨↑w+1+1,0,aN⟩) (by simp only;omega) _,fun v hv=>?_⟩,⟨?_,⟨?_,?_⟩,⟨?_,?_⟩,p2,c2,⟨?_,?_⟩,?_,?_,VH,?_⟩,?_⟩
   ·rw[World.cell?_setCell_far _ _ _ _ (by simp only;omega)]
    exact(rB.cell (bg hv)).trans hv
   ·rw[Sl];exact hmz
   ·rw[World.cell?_setCell_far _ _ _ _ (by simp only;omega)];exact r0'
   ·rw[jW];exact f0'
   ·rw[World.cell?_setCell_far _ _ _ _ (by simp only;omega)];exact r1'
   ·rw[jW];exact X6
   ·rw[Sl];exact dH _ _ _ (by rw[t0'];rfl)
   ·rw[jW];exact g0'
   ·rw[Sl];exact Uk.oa _ _ (fun b off s h=>by have:=j5 b off s h;simp only;omega)
   ·rw[Sl];exact F9
   ·intro b off s h
    have:=j5 b off s h;omega
   ·exact(Below.bK hB rB).setCell (p:=⟨↑w+1+1,0,aN⟩) (by simp only;omega) _
  ·gi_wp2_with (refine⟨trivial,?_⟩;gi_at_call 68;refine(CallsIn.inRound l (Qp.2 Eo)).mono ?_;clear Eo;rintro e W2 ⟨p2,c2,rfl,Uk,F9,VH,rB,j5⟩;obtain⟨r0',f0'⟩:=sQ rB r0 f0;obtain⟨r1',X6⟩:=sQ rB r1 f1;obtain⟨t0',g0'⟩:=sQ rB t0 g0)
   refine⟨(((vP rB).trans (KeepsOthers.setCell _ _ _)).trans (KeepsOthers.setCell _ _ _)).from _,⟨rfl,by rw[Sl];exact hmz,?_,?_⟩,?_⟩
   ·rw[World.cell?_setCell_far _ _ _ _ (by simp only;omega)];exact dH _ _ _ (by rw[r0'];rfl)
   ·rw[Sl];exact dH _ _ _ (by rw[World.cell?_setCell_far _ _ _ _ (by simp only;omega),r1'];rfl)
   ·exact((Below.bK hB rB).setCell (p:=w) (aV _) _).setCell (p:=⟨↑w+1,0,aN⟩) (by simp) _
 case done=>
  rintro D ys W hD rfl ⟨⟨hz,⟨r0,f0⟩,⟨r1,f1⟩,pT,cT,⟨t0,g0⟩,hLT,Z0,hnT,hbT⟩,hB⟩ hK
  gi_wp2
  have ZV:=((KeepsOthers.setCell W ⟨w,0,aN⟩ (ah pT (bG (nF ys)).2.length cT)).trans (KeepsOthers.setCell _ ⟨↑w+1,0,aN⟩ (aa ag 0))).same D _ hK rfl;refine⟨by simp,.inl ⟨_,_,rfl,run_takeDeferred ZV,?_⟩⟩;have hg:=grownBy_putObj' ((W.setCell w (ah pT (bG (nF ys)).2.length cT)).setCell ⟨↑w+1,0,aN⟩ (aa ag 0)) D (.deferred aN);have hr:∀ r,aO D=aO r->∃ o:Obj,((W.setCell w (ah pT (bG (nF ys)).2.length cT)).setCell ⟨↑w+1,0,aN⟩ (aa ag 0)).heap[r]?=aO o/\o.isCells=aH:=fun r e=>by cases e;exact⟨_,ZV,rfl⟩
  have c0:=cell_kept (a:=w) (v:=ah pT (bG (nF ys)).2.length cT) (by rw[World.cell?_setCell_far _ _ _ _ (by simp only;omega)];exact dH _ _ _ (by rw[r0];rfl)) hg hr;have c1:=cell_kept (a:=⟨↑w+1,0,aN⟩) (v:=aa ag 0) (dH _ _ _ (by rw[World.cell?_setCell_far _ _ _ _ (by simp only;omega),r1];rfl)) hg hr;refine⟨.tuple #[ah pT (bG (nF ys)).2.length cT,aa ag 0],?_,?_⟩
  ·simp[results,results40,go_sem,c0,c1]
  ·rw[hz]
   refine⟨pT,cT,rfl,((hLT.oa _ _ (fun b off s h=>by have:=hbT b off s h;simp only;omega)).oa _ _ (fun b off s h=>by have:=hbT b off s h;simp only;omega)).SP hg hr,Z0,hnT,?_,fun b off s h=>by have:=hbT b off s h;omega⟩;exact((hB.setCell (p:=w) (aV _) _).setCell (p:=⟨↑w+1,0,aN⟩) (by simp) _).trans (belowK_b (w:=w) (aV _) _ D _ _ (by omega) ZV rfl rfl)
 case stop=>
  rintro D c pre W hD ⟨k,hk,rfl⟩ ⟨⟨rfl,hz,r0,r1⟩,hB⟩ hK
  gi_wp2
  refine⟨by simp,.inl ⟨_,_,rfl,run_takeDeferred hK,?_⟩⟩;have hg:=grownBy_putObj' W D (.deferred aN);have hr:∀ r,aO D=aO r->∃ o:Obj,W.heap[r]?=aO o/\o.isCells=aH:=fun r e=>by cases e;exact⟨_,hK,rfl⟩
  have c0:=cell_kept r0 hg hr;have c1:=cell_kept r1 hg hr;have hall:bG (nF us)=((bG (nF (us.take k))).1,[]):=by
   have:nF us=nF (us.drop k)++nF (us.take k):=by unfold nF;rw[<- ahy,<- fk,iK]
   rw[this];exact yh hz
  refine⟨.tuple #[ah aN 0 0,aa ag (bG (nF (us.take k))).1],?_,?_⟩
  ·simp[results,results40,go_sem,c0,c1]
  ·rw[hall]
   exact gp.none (hB.trans (belowK_b (w:=w) (aV _) W D _ _ (by omega) hK rfl rfl))
theorem Fg(ls:aB Lay)(m:aF)(p:aC aJ)(cap:aE)(w:aw)(hT:gj w p ls)(zd:∀ x∈ls,jP w x)(hm:w.cell? ⟨0,0,aN⟩=aO (aa ag m)):ay aP 40 #[ah p ls.length cap] w (gp (jO (ls.map (·.es))).1 (jO (ls.map (·.es))).2 w):=by
 unfold jO;rw[bQ];by_cases h5:5<ls.length
 ·rw[aY h5]
  exact LC ls.length h5 p cap w
 ·rw[aW h5]
  exact Pu ls m p cap w hT zd (by omega) hm
theorem Pt(ls:aB Lay)(m:aF)(p:aC aJ)(cap:aE)(w:aw)(hT:gj w p ls)(zd:∀ x∈ls,jP w x)(hm:w.cell? ⟨0,0,aN⟩=aO (aa ag m)):ay aP 40 #[ah p ls.length cap] w (iB (jO (ls.map (·.es))).1 (jO (ls.map (·.es))).2 w):=
 (Fg ls m p cap w hT zd hm).mono fun _ _ h=>h.tree
theorem agF(e:bP)(w:aw):Sem.run aP (binOp .neq 88 (ar #[ai e.bm, aa ag e.bE, ai e.text, aq e.opq]) (ar #[ai e.bm, aa ag e.bE, ai e.text, aq e.opq])) w=.ok (aq aH) w:=by
 have u3:=underlying3;have a3:=Tryz.isAgg3;have z3:=Tryz.sizeOf3;have u9:=underlying9;have a9:=Tryz.isAgg9;have z9:=Tryz.sizeOf9;have u4:=underlying4;have a4:=Tryz.isAgg4;have z4:=Tryz.sizeOf4;have hS:Tryz.prog.underlying 88=aO (.struct (Tryz.prog.fieldsOf 88)):=by kernel_rfl
 have hp:Tryz.prog.stoodInHeld 88=aH:=by kernel_rfl
 rw[run_neq_struct,show(10000:aE)=9999+1 from rfl,run_equalIn_agg w 9999 88 _ _ hS hp];simp only[Program.fieldsOf,underlying88];go_simp
theorem Yb(op:BinOp)(a b:Operand)(x y:bP)(w:aw):(eqGuard op 88 a b (ar #[ai x.bm, aa ag x.bE, ai x.text, aq x.opq]) (ar #[ai y.bm, aa ag y.bE, ai y.text, aq y.opq])).run aP w=.ok () w:=
 GuardAt.agg (P:=aP) (T:=88) (fun e:bP=>#[ai e.bm, aa ag e.bE, ai e.text, aq e.opq]) (by kernel_rfl) op a b x y w
theorem DD(l:aB bP)(p p':aC aJ)(c c':aE)(w:aw)(hL:bI w p l)(J4:bI w p' l)(hn:l.length<4611686018427387904):ay aP 17 #[ah p l.length c,ah p' l.length c'] w fun e w'=>e=aK (aq aI)/\au w w w':=by
 have H1:ax (bI w p l):=hL;have H2:ax (bI w p' l):=J4;obtain⟨n,eK⟩:=ee l.length
 have HN:ax (n=l.length):=eK;rw[<- eK]at hn ⊢;clear eK hL J4;have hgu:=Yb;have alh:=agF;go_enter func17,ntmps17;go_wp2;go_loopg [13] n (fun gg s13 wr=>∃ k:aE,k<=n/\n-k<=gg/\s13=aa ag k/\ax (au w w wr))
 case atStart=>exact⟨0,bF _,by omega,rfl,aR _ _⟩
 case round=>
  obtain⟨k,hk,oP,rfl,BW⟩:=hrel;by_cases gm:k<n
  ·have eN:(k:aF)<(n:aF):=by omega
   obtain⟨y,hy⟩:∃ y,l[k]?=aO y:=⟨_,aU (by have:=HN.out;omega)⟩
   rcases H1.out with h0|⟨b,off,rfl,hb,hc⟩
   ·rw[h0]at hy;simp at hy
   rcases H2.out with h0|⟨b',off',rfl,ot,Hd⟩
   ·rw[h0]at hy;simp at hy
   obtain⟨c0,c1,c2,c3⟩:=bI.cells hc hb BW.out hy;obtain⟨d0,d1,d2,d3⟩:=bI.cells Hd ot BW.out hy;clear hc Hd hy;go_wp2;go_quiet (fail);go_wp2;go_roundg (n-(k+1))
   case measure=>omega
   case rel=>exact⟨k+1,by omega,by omega,by go_num,cG BW.out _⟩
  ·have eN:¬ (k:aF)<(n:aF):=by omega
   go_wp2;go_ret;exact⟨rfl,BW.out⟩
