import Derived.Test.YtjnkfelecopbjaaGreatDoorYA5
open Go.Proofs.Tryz
open Go.Value renaming int->aa,slice->ah,string->ai,pointer->aj,bool->aq,agg->ar,tuple->aL
open Go.IntKind renaming i64->ag
open Go.RowKit renaming Below->au
open Go renaming World->aw,Aside->ax,Calls->ay,Value->az,Addr->aJ
open _root_ renaming ByteArray->aA,List->aB,Option->aC,Nat->aE,Int->aF,absurd->aG
open Go.Ending renaming returned->aK
open Go.Obj renaming cells->aM
open Option renaming none->aN,some->aO
open Go.Proofs.Tryz renaming prog->aP
set_option linter.all false
set_option maxHeartbeats 4000000
set_option maxRecDepth 100000
namespace Go.Proofs.YtjnkfelecopbjaaGreatDoor
open Go.RowKit PM Go.Sort
variable{U aS c cl g:aE}{W X Y w:aw}{l own:aB bP}{lo ls:aB Lay}{pl:aC aJ}{vb:az}{y:Lay}
theorem xQ{e:bP}(h:anM own)(hp:e.bm.size<=80)(ht:e.text.size<=maxLen):anM (cZ own e):=by
 have Gf:e.p.length=e.bm.size:=ix e.bm;by_cases hd:jG own (bU e.p)=true
 ·rw[pM hd];exact tZ h hp ht
 ·rw[rC hd]
  have:=nD e.p;exact tZ (Ad _ _ (aV _) h (by omega)) hp ht
theorem CR(h:anM own)(p:aB UInt8):anM (mH own p):=fun x hx=>h x (nL.1 hx).1
theorem My(h:b7 own)(p:aB UInt8):b7 (mH own p):=dY _ h
theorem kj.cut(h:kj W aS U own g c vb)(hO:Own X g c l)(hG:W.grownBy X (aO g)):kj (X.setCell U (ah (aO g) l.length c)) aS U l g c vb:=by have k0:=(lZ hG (a:=U) h.ult (lD h.ne)).trans h.c0;have k1:=(lZ hG (a:=⟨U,1,aN⟩) h.ult (lD h.ne)).trans h.c1;have f0:X.frozen? U=false:=(dU (w:=W) (hG.block _ h.ult (by simpa using lD h.ne))).trans h.f0;exact⟨dH _ _ _ (by rw[k0];rfl),by rw[jW];exact f0,by rw[cN X ⟨U,0,aN⟩ ⟨U,1,aN⟩ _ (fun h=>by cases h)];exact k1,hO.bB (cI _ _ _ _ (by simpa using h.ne)),h.ne,h.gb,h.ub⟩
theorem Oz{q:aA}(h:kj W aS U own g c vb)(hO:Own X g c l)(hG:(W.alloc (aM #[ai q] 9)).grownBy X (aO g)):kj (X.setCell U (ah (aO g) l.length c)) aS U l g c vb/\fx U g W (X.setCell U (ah (aO g) l.length c))/\(X.setCell U (ah (aO g) l.length c)).cell? W=aO (ai q):=by have hB:au W W (W.alloc (aM #[ai q] 9)):=(aR _ _).alloc (aV _) _;have alD:=h.ult;have Gd:=h.own.lt;refine⟨(h.bB hB).cut hO hG,((fx.nj (g:=g) hB).trans (fx.NC hG) (.inl rfl)).trans (fx.set (g:=g) 0 _) (.inl rfl),?_⟩;rw[World.cell?_setCell_far _ _ _ _ (by simp only;omega),lZ hG (by simp) (by simp only;omega)];simp
theorem wg(h:kj X aS U l g c vb)(hM:fx U g W X)(hB:au X X Y):iA l aS U g vb W (aK (aL #[])) Y:=
 ⟨rfl,⟨g,c,h.bB hB,.inl rfl⟩,hM.trans (fx.nj (g:=g) hB) (.inl rfl)⟩
theorem JQ{Z:aw}(hM:fx U g W X)(hB:au X X Y)(h:(∃ g' c',kj Z aS U l g' c' vb/\(g'=g\/Y.heap.size<=g'))/\fx U g Y Z):iA l aS U g vb W (aK (aL #[])) Z:=by
 obtain⟨⟨g',c',h1,h2⟩,h3⟩:=h;have hs:=hM.size;have BX:=hB.size;refine⟨rfl,⟨g',c',h1,?_⟩,(hM.trans (fx.nj (g:=g) hB) (.inl rfl)).trans h3 (.inl rfl)⟩;rcases h2 with e|e
 ·exact .inl e
 ·exact .inr (by omega)
theorem KI{q:aA}(h:kj W aS U own g c vb)(hG:(W.alloc (aM #[ai q] 9)).grownBy X (aO g)):X.cell? U=aO (ah (aO g) own.length c)/\X.frozen? U=false:=by have h':=h.bB ((aR _ W).alloc (aV _) (aM #[ai q] 9));exact⟨(lZ hG (a:=U) h'.ult (lD h.ne)).trans h'.c0,(dU (w:=W.alloc (aM #[ai q] 9)) (a:=U) (hG.block _ h'.ult (by simpa using lD h.ne))).trans h'.f0⟩
theorem Ip(own B:aB bP)(q:aA)(aS U g c:aE)(pB:aC aJ)(cB:aE)(W:aw)(hU:kj W aS U own g c (ah pB B.length cB))(eD:aS<=W)(yB:∀ X,au aS W X->bI X pB B)(hs:b7 own)(hF:anM own)(hsB:b7 B)(hFB:anM B)(Vl:B.length<=80)(BV:q.size<=80)(ab9:q.data.toList≠[])(hlen:own.length<=7900):ay aP 128 #[aj (aO U),ai q] W (iA (ec own B q) aS U g (ah pB B.length cB) W):=by
 have Vt:=hU.ult;have Gd:=hU.own.lt;have YA:=hU.ne;have eg:∀ args w,(callFunc 175 args).run aP w=.ok (.enter 175 args) w:=enters_of func175 (by kernel_rfl) rfl;have hqm:q.size<=maxLen:=by unfold maxLen;omega
 have xY:=tS (fun e=>rG q e.p) 175 #[aj (aO W)] eg own g c (W.alloc (aM #[ai q] 9)) (hU.own.grown ((Grown.refl W).alloc _)) (by omega)
  (fun W2 x hG hx=>Ox x q W W2 (hF x hx).1 hqm (by have:=hG.size;simp at this;omega) (by rw[lZ hG (by simp) (by show W≠g;omega)];simp))
 have Vy:(own.filter fun x => !rG q x.p)=mH own q.data.toList:=rfl;rw[Vy]at xY;clear eg;obtain⟨n,hn⟩:=o7 own.length
 have IE:=hU.c0;have O2:=hU.f0;rw[hn]at xY IE;have HU:ax (kj W aS U own g c (ah pB B.length cB)):=hU;have zN:U≠W.heap.size:=by omega
 obtain⟨cw,Vy⟩:=ee (mH own q)
 rw[<- Vy]at xY;have HCW:ax (cw=mH own q):=Vy;have HS:ax (b7 cw/\anM cw/\cw.length<=7900):=by
  refine⟨?_,?_,?_⟩
  ·rw[Vy];exact My hs _
  ·rw[Vy];exact CR hF _
  ·rw[Vy];exact bc (FW _ _) hlen
 clear Vy hU hs hF hlen;obtain⟨nb,Qv⟩:=ee B.length
 have QM:ax (nb=B.length):=Qv;go_enter func128,ntmps128;go_wp2_with (go_at_call 174;refine xY.mono ?_;clear xY;rintro r w2 ⟨rfl,Nh,Ah⟩;obtain⟨k0,kf⟩:=KI HU.out Ah;have HL:ax _:=Oz HU.out Nh Ah;clear Nh Ah);obtain⟨X1,yD⟩:=o7 (w2.setCell U (ah (aO g) cw.length c))
 have hL:=HL.out;rw[yD]at hL ⊢;obtain⟨OX,G8,OU⟩:=hL;have ZG:ax (kj X1 aS U cw g c (ah pB B.length cB)):=OX;have HM1:ax (fx U g W X1):=G8;have si:au aS W X1:=G8.below OX.ub OX.gb eD;have q1:=OX.c1;rw[<- Qv]at q1;obtain⟨x,hx⟩:=o7 ((bW B q).getD cR)
 obtain⟨b,hb⟩:=o7 ((bW B q).isSome)
 have mK:∀ X,au aS W X->ay aP 76 #[ah pB nb cB,ai q] X fun r w'=>r=aK (aL #[ar #[ai x.bm, aa ag x.bE, ai x.text, aq x.opq],aq b])/\au X.heap.size X w':=fun X hX=>by rw[Qv];exact za B q pB cB X (yB X hX) hFB (by omega) hqm hsB x b hx hb
 have HB:ax ((bW B q).isSome=b):=hb;have ZX:=bg OU;simp only at ZX;have hUl:=OX.ult;clear HL yD OX G8 hx hb k0 kf IE O2 Qv hn Vy;obtain⟨xp,xk,xt,xo⟩:=x;simp only at mK;have n1:=World.new_ne X1 ⟨U,1,aN⟩ q1;have n2:=World.new_ne X1 ⟨W,0,aN⟩ OU;go_region_held3 (fun w'=>w'.cell? ⟨U,1,aN⟩=aO (ah pB nb cB)/\w'.cell? W=aO (ai q)) (go_keep) (first
  | (go_at_call 76;refine(mK _ si.drew).mono ?_;clear mK;rintro r w3 ⟨rfl,pL⟩;have UX:ax _:=pL;have z1:=(pL.cell (p:=⟨U,1,aN⟩) hUl).trans q1;have z2:=(pL.cell (p:=W) ZX).trans OU;clear pL)
  | (go_at_call 76;refine(mK _ (si.alloc (bc eD HM1.size) _).drew).mono ?_;clear mK;rintro r w3 ⟨rfl,pL⟩;have UX:ax _:=pL;have z1:=(pL.cell (p:=⟨U,1,aN⟩) (by simp;omega)).trans (bj _ q1);have z2:=(pL.cell (p:=W) (by simp;omega)).trans (bj _ OU);obtain⟨⟨b0,b1,b2,b3⟩,⟨g0,g1,g2,g3⟩⟩:=iv (w:=X1) (B:=X1.heap.size+1) (bC _) (((aR _ _).drew).trans (pL.mono (rP (cE X1 _).symm)));clear pL))
 ·obtain⟨X2,Yo⟩:=o7 (w3.alloc (aM #[ai xp,aa ag xk,ai xt,aq xo] 88))
  have Ai:au X1 X1 X2:=by have h1:au X1 X1 w3:=((aR _ _).drew).trans UX.out;rw[<- Yo];exact h1.alloc h1.size _
  rw[Yo];clear Yo UX;have N0:ax (kj X2 aS U cw g c (ah pB B.length cB)):=ZG.bB Ai;have XH:ax (fx U g W X2):=HM1.trans (fx.nj (g:=g) Ai) (.inl rfl);have Up:=(Ai.cell (p:=W) ZX).trans OU;have RQ:W.heap.size<X2.heap.size:=aZ ZX Ai.size;have Ym:=N0.ult;obtain⟨nc,C6⟩:=ee cw.length
  have F9:=N0.c0;rw[<- C6]at F9;have K0:=fun n os=>anT (w:=X2) (a:=U) Ym F9 n os
  have J0:=fun n os=>anT (w:=X2) (a:=W) RQ Up n os
  have mixed:Tryz.prog.follows .mixedOrders=true:=by kernel_rfl
  have A0:∀ n os,ay aP 156 #[ah (aO g) nc c,ai q] (grow (X2.drewN n) os) fun r w'=>r=aK (aq (fM cw q))/\∃ p os',w'=grow ((grow (X2.drewN n) os).drewN p) os':=fun n os=>by rw[C6];exact Aj cw q _ c _ (N0.own.grown ⟨n,os,rfl⟩).anO HS.2.1 (by have:=HS.2.2;omega) hqm
  have IG:∀ X,Grown X2 X->ay aP 124 #[aj (aO U),ar #[ai q,aa ag 4,ai ⟨#[]⟩,aq false]] X (iA (cZ cw (pD q 4)) aS U g (ah pB B.length cB) X):=fun X hX=>
   sX (pD q 4).p.length cw (pD q 4) aS U g c _ X (aV _) (N0.bB hX.below) HS.1 HS.2.1 BV (by show(ByteArray.mk #[]).size<=maxLen;unfold maxLen;decide) ab9 (by have h1:(pD q 4).p.length=q.size:=ix q;have:=HS.2.2;omega)
  have UQ:ax (ec own B q=if(bW B q).isSome && !fM cw q then cZ cw (pD q 4)else cw):=by show _=_;rw[HCW.out];rfl
  obtain⟨dl,BQ⟩:=ee (ec own B q)
  have NY:ax (dl=ec own B q):=BQ;rw[<- BQ];clear C6 BQ Ai z1 z2 q1 OU si n1 n2 F9;generalize fM cw q.data.toList=hh at A0 UQ;cases b with
  | false=>
   have HE:ax (dl=cw):=by show _=_;rw[NY.out,UQ.out,HB.out];rfl
   clear A0 IG;go_wp2;go_quiet (fail);go_wp2;refine ba (eC rfl _ _ _) rfl ?_;rw[<- NY.out,HE.out];exact wg N0.out XH.out (cG (aR _ _) _)
  | true=>
   cases hh with
   | true=>
    have HE:ax (dl=cw):=by show _=_;rw[NY.out,UQ.out,HB.out];rfl
    clear IG;go_wp2;go_quiet_grown (exact anU (A0 _ _));go_wp2;refine ba (eC rfl _ _ _) rfl ?_;rw[<- NY.out,HE.out];exact wg N0.out XH.out (Grown.below ⟨_,_,rfl⟩)
   | false=>
    have HE:ax (dl=cZ cw (pD q 4)):=by show _=_;rw[NY.out,UQ.out,HB.out];rfl
    go_wp2;go_quiet_grown (exact anU (A0 _ _));obtain⟨X3,F3⟩:=ee (grow (X2.drewN nq) osq)
    have wK:Grown X2 X3:=⟨nq,osq,F3⟩
    show Exit.then _ _ Exit.normal _ (grow (X2.drewN nq) osq);rw[<- F3];have hP3:=(wK.cell (p:=W) RQ).trans Up;clear A0 K0 J0 F3;go_wp2_with (go_at_call 124;refine(IG _ wK).mono ?_;clear IG;rintro r X4 ⟨rfl,hH⟩;have HH:ax _:=hH;clear hH);refine ba (eC rfl _ _ _) rfl ?_;rw[<- NY.out,HE.out];exact JQ XH.out wK.below HH.out
 ·have Ai:au X1 X1 ((((w3.setCell X1 (ai xp)).setCell ⟨X1,1,aN⟩ (aa ag xk)).setCell ⟨X1,2,aN⟩ (ai xt)).setCell ⟨X1,3,aN⟩ (aq xo)):=by
   have h1:au X1 X1 w3:=(((aR _ _).alloc (aV _) _).drew).trans (UX.mono (by rw[show ∀ o,(X1.alloc o).drew.heap.size=X1.heap.size+1 from fun o=>cE X1 o];omega));exact(((h1.setCell (p:=X1) (aV _) _).setCell (p:=⟨X1,1,aN⟩) (aV _) _).setCell (p:=⟨X1,2,aN⟩) (aV _) _).setCell (p:=⟨X1,3,aN⟩) (aV _) _
  generalize (((w3.setCell X1 (ai xp)).setCell ⟨X1,1,aN⟩ (aa ag xk)).setCell ⟨X1,2,aN⟩ (ai xt)).setCell ⟨X1,3,aN⟩ (aq xo)=X2 at Ai ⊢;clear UX b0 b1 b2 b3 g0 g1 g2 g3;have N0:ax (kj X2 aS U cw g c (ah pB B.length cB)):=ZG.bB Ai;have XH:ax (fx U g W X2):=HM1.trans (fx.nj (g:=g) Ai) (.inl rfl);have Up:=(Ai.cell (p:=W) ZX).trans OU;have RQ:W.heap.size<X2.heap.size:=aZ ZX Ai.size;have Ym:=N0.ult;obtain⟨nc,C6⟩:=ee cw.length
  have F9:=N0.c0;rw[<- C6]at F9;have K0:=fun n os=>anT (w:=X2) (a:=U) Ym F9 n os
  have J0:=fun n os=>anT (w:=X2) (a:=W) RQ Up n os
  have mixed:Tryz.prog.follows .mixedOrders=true:=by kernel_rfl
  have A0:∀ n os,ay aP 156 #[ah (aO g) nc c,ai q] (grow (X2.drewN n) os) fun r w'=>r=aK (aq (fM cw q))/\∃ p os',w'=grow ((grow (X2.drewN n) os).drewN p) os':=fun n os=>by rw[C6];exact Aj cw q _ c _ (N0.own.grown ⟨n,os,rfl⟩).anO HS.2.1 (by have:=HS.2.2;omega) hqm
  have IG:∀ X,Grown X2 X->ay aP 124 #[aj (aO U),ar #[ai q,aa ag 4,ai ⟨#[]⟩,aq false]] X (iA (cZ cw (pD q 4)) aS U g (ah pB B.length cB) X):=fun X hX=>
   sX (pD q 4).p.length cw (pD q 4) aS U g c _ X (aV _) (N0.bB hX.below) HS.1 HS.2.1 BV (by show(ByteArray.mk #[]).size<=maxLen;unfold maxLen;decide) ab9 (by have h1:(pD q 4).p.length=q.size:=ix q;have:=HS.2.2;omega)
  have UQ:ax (ec own B q=if(bW B q).isSome && !fM cw q then cZ cw (pD q 4)else cw):=by show _=_;rw[HCW.out];rfl
  obtain⟨dl,BQ⟩:=ee (ec own B q)
  have NY:ax (dl=ec own B q):=BQ;rw[<- BQ];clear C6 BQ Ai z1 z2 q1 OU si n1 n2 F9;generalize fM cw q.data.toList=hh at A0 UQ;cases b with
  | false=>
   have HE:ax (dl=cw):=by show _=_;rw[NY.out,UQ.out,HB.out];rfl
   clear A0 IG;go_wp2;go_quiet (fail);go_wp2;refine ba (eC rfl _ _ _) rfl ?_;rw[<- NY.out,HE.out];exact wg N0.out XH.out (cG (aR _ _) _)
  | true=>
   cases hh with
   | true=>
    have HE:ax (dl=cw):=by show _=_;rw[NY.out,UQ.out,HB.out];rfl
    clear IG;go_wp2;go_quiet_grown (exact anU (A0 _ _));go_wp2;refine ba (eC rfl _ _ _) rfl ?_;rw[<- NY.out,HE.out];exact wg N0.out XH.out (Grown.below ⟨_,_,rfl⟩)
   | false=>
    have HE:ax (dl=cZ cw (pD q 4)):=by show _=_;rw[NY.out,UQ.out,HB.out];rfl
    go_wp2;go_quiet_grown (exact anU (A0 _ _));obtain⟨X3,F3⟩:=ee (grow (X2.drewN nq) osq)
    have wK:Grown X2 X3:=⟨nq,osq,F3⟩
    show Exit.then _ _ Exit.normal _ (grow (X2.drewN nq) osq);rw[<- F3];have hP3:=(wK.cell (p:=W) RQ).trans Up;clear A0 K0 J0 F3;go_wp2_with (go_at_call 124;refine(IG _ wK).mono ?_;clear IG;rintro r X4 ⟨rfl,hH⟩;have HH:ax _:=hH;clear hH);refine ba (eC rfl _ _ _) rfl ?_;rw[<- NY.out,HE.out];exact JQ XH.out wK.below HH.out
def qx(W:aw)(aS U g:aE)(l:aB bP)(vb:az)(X:aw):Prop:=(∃ g' c',kj X aS U l g' c' vb/\(g'=g\/W.heap.size<=g'))/\fx U g W X
theorem qx.start(h:kj W aS U l g c vb):qx W aS U g l vb W:=⟨⟨g,c,h,.inl rfl⟩,fx.refl _ _ _⟩
theorem qx.bB(h:qx W aS U g l vb X)(hB:au X X Y):qx W aS U g l vb Y:=by obtain⟨⟨g',c',h1,h2⟩,h3⟩:=h;exact⟨⟨g',c',h1.bB hB,h2⟩,h3.trans (fx.nj (g:=g) hB) (.inl rfl)⟩
theorem qx.next{g1:aE}(hM:fx U g W X)(hg:g1=g\/W<=g1)(h:(∃ g' c',kj Y aS U l g' c' vb/\(g'=g1\/X.heap.size<=g'))/\fx U g1 X Y):qx W aS U g l vb Y:=by
 obtain⟨⟨g',c',h1,h2⟩,h3⟩:=h;have hs:=hM.size;refine⟨⟨g',c',h1,?_⟩,hM.trans h3 hg⟩;rcases h2 with e|e
 ·rw[e];exact hg
 ·exact .inr (by omega)
theorem qx.below{l0:aB bP}(h:qx W aS U g l vb X)(h0:kj W aS U l0 g c vb)(hb:aS<=W):au aS W X:=h.2.below h0.ub h0.gb hb
theorem Ac{B:aB bP}{p:aA}(h:anM own)(hp:p.size<=80):anM (ec own B p):=by
 unfold ec;split
 ·exact xQ (CR h _) hp (by show(ByteArray.mk #[]).size<=maxLen;unfold maxLen;decide)
 ·exact CR h _
theorem A9(bS tw:aA):∀ (M:aB bP) (o:aB bP),(∀ e∈M,(ma bS tw e).bm.size<=80/\(ma bS tw e).text.size<=maxLen)->b7 o->anM o->b7 (iH bS tw o M)/\anM (iH bS tw o M)/\(iH bS tw o M).length<=o.length+81*M.length
 | [],o,_,hs,hF=>⟨hs,hF,by simp[iH]⟩
 | e::M,o,hM,hs,hF=>by obtain⟨h1,h2⟩:=hM e (by simp);obtain⟨s1,s2⟩:=qe (ma bS tw e).p.length (own:=o) (e:=ma bS tw e) (aV _) hs;have Gf:(ma bS tw e).p.length=(ma bS tw e).bm.size:=ix _;obtain⟨a,b,c⟩:=A9 bS tw M (cZ o (ma bS tw e)) (fun x hx=>hM x (by simp[hx])) s1 (xQ hF h1 h2);refine⟨a,b,?_⟩;show(iH bS tw (cZ o (ma bS tw e)) M).length<=_;rw[cj];omega
theorem Dm(bS tw:aA)(o M:aB bP)(e:bP):iH bS tw o (M++[e])=cZ (iH bS tw o M) (ma bS tw e):=by simp[iH,Km]
theorem AX{s:aB bP}{f:bP->Bool}{k:aE}{y:bP}(hy:s[k]?=aO y):(s.take (k+1)).filter f=(s.take k).filter f++(if f y then[y]else[]):=by rw[gi hy,eu];cases h:f y<;>simp[h]
theorem ML(own B s:aB bP)(bS tw:aA)(aS U g c:aE)(pB ps:aC aJ)(cB cs:aE)(W:aw)(hU:kj W aS U own g c (ah pB B.length cB))(eD:aS<=W)(yB:∀ X,au aS W X->bI X pB B)(Vp:∀ X,au aS W X->bI X ps s)(hs:b7 own)(hF:anM own)(hsB:b7 B)(hFB:anM B)(Vl:B.length<=80)(hss:b7 s)(hFs:anM s)(Y1:s.length<=80)(R6:bS.size<=80)(Aq:tw.size<=80)(abt:bS.data.toList≠[])(agn:tw.data.toList≠[])(hlen:own.length<=80)(Ak:∀ e∈s,e.bm.size<=80)(hmv:∀ e∈s,jC bS e=true->(ma bS tw e).bm.size<=80/\(ma bS tw e).p≠[]):ay aP 133 #[aj (aO U),ah ps s.length cs,ai bS,ai tw] W (iA (kh own B s bS tw) aS U g (ah pB B.length cB) W):=by
 obtain⟨x,hx⟩:=o7 ((bW s tw).getD cR)
 obtain⟨b,hb⟩:=o7 ((bW s tw).isSome)
 have nY:ay aP 76 #[ah ps s.length cs,ai tw] W fun r w'=>r=aK (aL #[ar #[ai x.bm, aa ag x.bE, ai x.text, aq x.opq],aq b])/\au W W w':=
  za s tw ps cs W (Vp W (aR _ _)) hFs (by omega) (by unfold maxLen;omega) hss x b hx hb
 have HU:ax (kj W aS U own g c (ah pB B.length cB)):=hU;have HLs:ax (∀ X,au aS W X->bI X ps s):=Vp;have RZ:∀ (o:aB bP) (q:aA) (X:aw) (g1 c1:aE),kj X aS U o g1 c1 (ah pB B.length cB)->au aS W X->b7 o->anM o->o.length<=7900->q.size<=80->q.data.toList≠[] ->
   ay aP 128 #[aj (aO U),ai q] X (iA (ec o B q) aS U g1 (ah pB B.length cB) X):=fun o q X g1 c1 h1 h2 h3 h4 h5 h6 h7=>
  Ip o B q aS U g1 c1 pB cB X h1 (bc eD h2.size) (fun Y hY=>yB Y (h2.trans hY)) h3 h4 hsB hFB Vl h6 h7 h5
 have UP:ax (b7 (fQ own B s tw)/\anM (fQ own B s tw)/\(fQ own B s tw).length<=161):=by
  unfold fQ;split
  ·have:=CM (own:=own) (B:=B) (p:=tw) hs
   exact⟨this.2,Ac hF Aq,by omega⟩
  ·exact⟨hs,hF,by omega⟩
 obtain⟨o2,Lf⟩:=ee (ec (fQ own B s tw) B bS)
 have Ue:ax (b7 o2/\anM o2/\o2.length<=242):=by have:=CM (own:=fQ own B s tw) (B:=B) (p:=bS) UP.1;have h2:=UP.2.2;rw[Lf];exact⟨this.2,Ac UP.2.1 R6,by omega⟩
 have HMU:ax (kh own B s bS tw=iH bS tw o2 (s.filter (jC bS))):=by show _=_;rw[Lf];rfl
 have HDF:ax (o2=ec (fQ own B s tw) B bS):=Lf;have UW:ax (∀ e∈s,jC bS e=true->(ma bS tw e).bm.size<=80/\(ma bS tw e).p≠[]):=hmv;have HFS:ax (anM s):=hFs;have HP8:ax (∀ e∈s,e.bm.size<=80):=Ak;have HBD:ax (∀ k,b7 (iH bS tw o2 ((s.take k).filter (jC bS)))/\anM (iH bS tw o2 ((s.take k).filter (jC bS)))/\(iH bS tw o2 ((s.take k).filter (jC bS))).length<=6800):=fun k=>by
  have h1:((s.take k).filter (jC bS)).length<=80:=bc (ed _ _) (bc (by rw[bL];exact Nat.min_le_right _ _) Y1);obtain⟨a,b,cc⟩:=A9 bS tw ((s.take k).filter (jC bS)) o2 (fun e he=>by
   obtain⟨h2,h3⟩:=dS.1 he;have h4:=tO h2;exact⟨(hmv e h4 h3).1,(hFs e h4).2⟩) Ue.1 Ue.2.1
  exact⟨a,b,by have:=Ue.2.2;omega⟩
 obtain⟨n,hn⟩:=ee s.length
 have HN:ax (n=s.length):=hn;rw[<- hn]at nY Y1 ⊢;have FI:ax ((bW s tw).isSome=b):=hb;obtain⟨mu,hmu⟩:=ee (kh own B s bS tw)
 have HMM:ax (mu=kh own B s bS tw):=hmu;have ZC:ax (b7 own/\anM own/\own.length<=80):=⟨hs,hF,hlen⟩
 obtain⟨xp,xk,xt,xo⟩:=x;simp only at nY;have Vt:=hU.ult;clear hx hb Lf hn hmu hs hF hss hFs hmv Vp yB hlen hU Ak;cases b with
 | false=>
  have HC:ax (fQ own B s tw=own):=by show _=_;rw[fQ,FI.out];rfl
  go_enter func133,ntmps133;go_wp2_with (first
   | (go_at_call 76;refine nY.mono ?_;clear nY;rintro r w1 ⟨rfl,zM⟩;have tF:ax (qx W aS U g own (ah pB B.length cB) (w1.alloc (aM #[ai xp,aa ag xk,ai xt,aq xo] 88))):=((qx.start HU.out).bB zM).bB ((Grown.refl _).alloc _).below;clear zM)
   | (go_at_call 128;obtain⟨⟨g1,c1,zN,x7⟩,G8⟩:=tF.out;refine(RZ own bS _ g1 c1 zN (tF.below HU.out eD) ZC.1 ZC.2.1 (by have:=ZC.2.2;omega) R6 abt).mono ?_;rintro r w2 ⟨rfl,hH⟩;have QO:ax (qx W aS U g o2 (ah pB B.length cB) w2):=by { have:=qx.next G8 x7 hH;rw[<- HC.out,<- HDF.out]at this;exact this };clear hH G8 zN x7 tF))
  go_loopg [27] n (fun gg s27 wr=>∃ k:aE,k<=n/\n-k<=gg/\s27=aa ag k/\ax (qx W aS U g (iH bS tw o2 ((s.take k).filter (jC bS))) (ah pB B.length cB) wr))
  case atStart=>exact⟨0,bF _,by omega,rfl,QO.out⟩
  case round=>
   obtain⟨k,hk,oP,rfl,ST⟩:=hrel;by_cases gm:k<n
   ·have eN:(k:aF)<(n:aF):=by omega
    obtain⟨y,hy⟩:∃ y,s[k]?=aO y:=⟨_,aU (by have:=HN.out;omega)⟩
    have HY:ax (s[k]?=aO y):=hy;have Y9:=bw hy;have hyF:=HFS.out y Y9;have qg:=HP8.out y Y9;have Vw:=ST.below HU.out eD;rcases HLs.out wr Vw with h0|⟨bb,off,rfl,pN,hc⟩
    ·rw[h0]at hy;simp at hy
    obtain⟨c0,c1',c2,c3⟩:=bI.cells hc pN (aR _ _) hy;have hne:bb≠wr.heap.size:=by omega
    have D2:=fun X=>yy y.bm bS X hyF.1 (by unfold maxLen;omega)
    have UR:=AX (f:=jC bS) hy;have uY:ax ((s.take (k+1)).filter (jC bS)=(s.take k).filter (jC bS)++(if jC bS y then[y]else[])):=UR;clear hc hy UR;cases mq:jC bS y with
    | false=>
     have hw:rG bS y.bm.data.toList=false:=mq;rw[hw]at D2;have HE:ax ((s.take (k+1)).filter (jC bS)=(s.take k).filter (jC bS)):=by show _=_;rw[uY.out,mq];simp
     clear hw mq uY;go_wp2_with (go_at_call 176;refine(D2 _).mono ?_;rintro rr wx ⟨rfl,Hh⟩;subst wx);go_roundg (n-(k+1))
     case measure=>omega
     case rel=>exact⟨k+1,by omega,by omega,by go_num,by rw[HE.out];exact ST.bB ((Grown.refl wr).alloc _).below⟩
    | true=>
     have hw:rG bS y.bm.data.toList=true:=mq;rw[hw]at D2;have iL:=vN mq;have VN:(bS.size:aF)<=(y.bm.size:aF):=by omega
     have hmy:=UW.out y Y9 mq;have HE:ax (iH bS tw o2 ((s.take (k+1)).filter (jC bS))=cZ (iH bS tw o2 ((s.take k).filter (jC bS))) (ma bS tw y)):=by show _=_;rw[uY.out,mq,aY rfl,Dm]
     have kV:=HBD.out k;have IG:∀ X g1 c1,kj X aS U (iH bS tw o2 ((s.take k).filter (jC bS))) g1 c1 (ah pB B.length cB)->ay aP 124 #[aj (aO U),ar #[ai (tw++y.bm.extract bS.size y.bm.size),aa ag y.bE,ai y.text,aq y.opq]] X (iA (cZ (iH bS tw o2 ((s.take k).filter (jC bS))) (ma bS tw y)) aS U g1 (ah pB B.length cB) X):=fun X g1 c1 hX=>
      sX (ma bS tw y).p.length _ (ma bS tw y) aS U g1 c1 _ X (aV _) hX kV.1 kV.2.1 hmy.1 hyF.2 hmy.2 (by have h1:(ma bS tw y).p.length=(ma bS tw y).bm.size:=ix _;have:=kV.2.2;omega)
     generalize j5:tw++y.bm.extract bS.size y.bm.size=new at IG;clear hw mq uY kV;go_wp2_with (first
      | (go_at_call 176;refine(D2 _).mono ?_;rintro rr wx ⟨rfl,Hh⟩;subst wx)
      | (go_at_call 124;obtain⟨⟨g1,c1,zN,x7⟩,G8⟩:=ST.bB ((Grown.refl wr).alloc (aM #[ai new,aa ag y.bE,ai y.text,aq y.opq] 88)).below;refine(IG _ g1 c1 zN).mono ?_;clear IG;rintro r w5 ⟨rfl,hH⟩;have HS5:ax (qx W aS U g _ (ah pB B.length cB) w5):=qx.next G8 x7 hH;clear hH G8 zN x7))
     go_roundg (n-(k+1))
     case measure=>omega
     case rel=>exact⟨k+1,by omega,by omega,by go_num,by rw[HE.out];exact HS5.out⟩
   ·obtain rfl:k=n:=by omega
    have eN:¬ (k:aF)<(k:aF):=by omega
    go_wp2;refine ba (eC rfl _ _ _) rfl ?_;have:=ST.out;rw[cz (by have:=HN.out;omega),<- HMU.out]at this;exact⟨rfl,this⟩
 | true=>
  have HC:ax (fQ own B s tw=ec own B tw):=by show _=_;rw[fQ,FI.out];rfl
  have YB:True:=trivial;go_enter func133,ntmps133;go_wp2_with (first
   | (go_at_call 76;refine nY.mono ?_;clear nY;rintro r w1 ⟨rfl,zM⟩;have tF:ax (qx W aS U g own (ah pB B.length cB) (w1.alloc (aM #[ai xp,aa ag xk,ai xt,aq xo] 88))):=((qx.start HU.out).bB zM).bB ((Grown.refl _).alloc _).below;clear zM)
   | (go_at_call 128;clear YB;obtain⟨⟨g1,c1,zN,x7⟩,G8⟩:=tF.out;refine(RZ own tw _ g1 c1 zN (tF.below HU.out eD) ZC.1 ZC.2.1 (by have:=ZC.2.2;omega) Aq agn).mono ?_;rintro r w2 ⟨rfl,hH⟩;have HSM:ax (qx W aS U g (fQ own B s tw) (ah pB B.length cB) w2):=by { have:=qx.next G8 x7 hH;rw[<- HC.out]at this;exact this };clear hH G8 zN x7 tF;have YC:True:=trivial)
   | (go_at_call 128;clear YC;obtain⟨⟨g1,c1,zN,x7⟩,G8⟩:=HSM.out;refine(RZ (fQ own B s tw) bS _ g1 c1 zN (HSM.below HU.out eD) UP.1 UP.2.1 (by have:=UP.2.2;omega) R6 abt).mono ?_;rintro r w3 ⟨rfl,hH⟩;have QO:ax (qx W aS U g o2 (ah pB B.length cB) w3):=by { have:=qx.next G8 x7 hH;rw[<- HDF.out]at this;exact this };clear hH G8 zN x7 HSM))
  go_loopg [27] n (fun gg s27 wr=>∃ k:aE,k<=n/\n-k<=gg/\s27=aa ag k/\ax (qx W aS U g (iH bS tw o2 ((s.take k).filter (jC bS))) (ah pB B.length cB) wr))
  case atStart=>exact⟨0,bF _,by omega,rfl,QO.out⟩
  case round=>
   obtain⟨k,hk,oP,rfl,ST⟩:=hrel;by_cases gm:k<n
   ·have eN:(k:aF)<(n:aF):=by omega
    obtain⟨y,hy⟩:∃ y,s[k]?=aO y:=⟨_,aU (by have:=HN.out;omega)⟩
    have HY:ax (s[k]?=aO y):=hy;have Y9:=bw hy;have hyF:=HFS.out y Y9;have qg:=HP8.out y Y9;have Vw:=ST.below HU.out eD;rcases HLs.out wr Vw with h0|⟨bb,off,rfl,pN,hc⟩
    ·rw[h0]at hy;simp at hy
    obtain⟨c0,c1',c2,c3⟩:=bI.cells hc pN (aR _ _) hy;have hne:bb≠wr.heap.size:=by omega
    have D2:=fun X=>yy y.bm bS X hyF.1 (by unfold maxLen;omega)
    have UR:=AX (f:=jC bS) hy;have uY:ax ((s.take (k+1)).filter (jC bS)=(s.take k).filter (jC bS)++(if jC bS y then[y]else[])):=UR;clear hc hy UR;cases mq:jC bS y with
    | false=>
     have hw:rG bS y.bm.data.toList=false:=mq;rw[hw]at D2;have HE:ax ((s.take (k+1)).filter (jC bS)=(s.take k).filter (jC bS)):=by show _=_;rw[uY.out,mq];simp
     clear hw mq uY;go_wp2_with (go_at_call 176;refine(D2 _).mono ?_;rintro rr wx ⟨rfl,Hh⟩;subst wx);go_roundg (n-(k+1))
     case measure=>omega
     case rel=>exact⟨k+1,by omega,by omega,by go_num,by rw[HE.out];exact ST.bB ((Grown.refl wr).alloc _).below⟩
    | true=>
     have hw:rG bS y.bm.data.toList=true:=mq;rw[hw]at D2;have iL:=vN mq;have VN:(bS.size:aF)<=(y.bm.size:aF):=by omega
     have hmy:=UW.out y Y9 mq;have HE:ax (iH bS tw o2 ((s.take (k+1)).filter (jC bS))=cZ (iH bS tw o2 ((s.take k).filter (jC bS))) (ma bS tw y)):=by show _=_;rw[uY.out,mq,aY rfl,Dm]
     have kV:=HBD.out k;have IG:∀ X g1 c1,kj X aS U (iH bS tw o2 ((s.take k).filter (jC bS))) g1 c1 (ah pB B.length cB)->ay aP 124 #[aj (aO U),ar #[ai (tw++y.bm.extract bS.size y.bm.size),aa ag y.bE,ai y.text,aq y.opq]] X (iA (cZ (iH bS tw o2 ((s.take k).filter (jC bS))) (ma bS tw y)) aS U g1 (ah pB B.length cB) X):=fun X g1 c1 hX=>
      sX (ma bS tw y).p.length _ (ma bS tw y) aS U g1 c1 _ X (aV _) hX kV.1 kV.2.1 hmy.1 hyF.2 hmy.2 (by have h1:(ma bS tw y).p.length=(ma bS tw y).bm.size:=ix _;have:=kV.2.2;omega)
     generalize j5:tw++y.bm.extract bS.size y.bm.size=new at IG;clear hw mq uY kV;go_wp2_with (first
      | (go_at_call 176;refine(D2 _).mono ?_;rintro rr wx ⟨rfl,Hh⟩;subst wx)
      | (go_at_call 124;obtain⟨⟨g1,c1,zN,x7⟩,G8⟩:=ST.bB ((Grown.refl wr).alloc (aM #[ai new,aa ag y.bE,ai y.text,aq y.opq] 88)).below;refine(IG _ g1 c1 zN).mono ?_;clear IG;rintro r w5 ⟨rfl,hH⟩;have HS5:ax (qx W aS U g _ (ah pB B.length cB) w5):=qx.next G8 x7 hH;clear hH G8 zN x7))
     go_roundg (n-(k+1))
     case measure=>omega
     case rel=>exact⟨k+1,by omega,by omega,by go_num,by rw[HE.out];exact HS5.out⟩
   ·obtain rfl:k=n:=by omega
    have eN:¬ (k:aF)<(k:aF):=by omega
    go_wp2;refine ba (eC rfl _ _ _) rfl ?_;have:=ST.out;rw[cz (by have:=HN.out;omega),<- HMU.out]at this;exact⟨rfl,this⟩
structure eZ (w:aw) (y:Lay) (lo:aB Lay) (pl:aC aJ) (cl:aE):Prop where
 up:jP w y
 Wq:y.ad=aN->y.cap=0
 anO:gj w pl lo
 each:∀ x∈lo,jP w x/\(x.ad=aN->x.cap=0)
 nil:pl=aN->cl=0
 cap:lo.length<=cl
theorem eZ.bB(h:eZ w y lo pl cl)(hB:au w w W):eZ W y lo pl cl:=
 ⟨h.up.bB hB,h.Wq,h.anO.bB hB,fun x hx=>⟨(h.each x hx).1.bB hB,(h.each x hx).2⟩,h.nil,h.cap⟩
theorem eZ.all(h:eZ w y lo pl cl):∀ x∈y::lo,jP w x:=fun x hx=>by
 rcases cX.1 hx with rfl|hx
 ·exact h.up
 ·exact(h.each x hx).1
def qC(aS:aE)(y:Lay)(lo:aB Lay)(pl:aC aJ):Prop:=(∀ b off s,y.ad=aO ⟨b,off,s⟩->aS<=b)/\(∀ b off s,pl=aO ⟨b,off,s⟩->aS<=b)/\∀ x∈lo,∀ b off s,x.ad=aO ⟨b,off,s⟩->aS<=b
def lL(er:aF)(up:aB bP)(cq:aB (aB bP))(w:aw)(r:Ending)(w':aw):Prop:=
 ∃ (y:Lay) (lo:aB Lay) (pl:aC aJ) (cl:aE),r=aK (aL #[ar #[ah y.ad y.es.length y.cap,ah pl lo.length cl],aa ag er])/\y.es=up/\lo.map (·.es)=cq/\eZ w' y lo pl cl/\au w w w'/\qC w y lo pl
theorem lL.none{er:aF}{w':aw}(hB:au w w w'):lL er [] [] w (aK (aL #[ar #[ah .none 0 0,ah .none 0 0],aa ag er])) w':=
 ⟨⟨.none,0,[]⟩,[],.none,0,rfl,rfl,rfl,⟨⟨bI.nil _ _,fun e he=>by simp at he,aV _,by decide⟩,fun _=>rfl,.inl rfl,fun x hx=>by simp at hx,fun _=>rfl,aV _⟩,hB,⟨nofun,nofun,fun x hx=>by simp at hx⟩⟩
theorem gC.Ir{v:az}(h:gC w aS v ls):∃ p c,v=ah p ls.length c/\gj w p ls/\ls.length<=c/\(p=aN->c=0)/\∀ b off s,p=aO ⟨b,off,s⟩->aS<=b:=by
 obtain⟨p,c,hv,hL⟩:=h.form;refine⟨p,c,hv,hL,?_⟩;obtain⟨h1,⟨h2,h3⟩|⟨g,cap,eI,yE,hg,hh,C6,hm,hs,ht⟩⟩:=h
 ·rw[h2]at hv
  injection hv with e1 e2 e3
  exact⟨by omega,fun _=>e3.symm,(fun b off s h=>by rw[h]at e1;cases e1)⟩
 ·rw[yE]at hv
  injection hv with e1 e2 e3
  exact⟨by omega,(fun hp=>by rw[hp]at e1;cases e1),(fun b off s h=>by rw[h]at e1;cases e1;exact hg)⟩
abbrev Kd(w:aw)(ga:aE)(la:Array az)(s:aB bP)(ae:aF):Prop:=∀ X p c,au w w X->bI X p s->s.length<=c->(p=aN->c=0)->ay aP ga (#[ah p s.length c]++la) X fun r X'=>(∃ v,r=aK (aL #[v,aa ag ae]))/\au X.heap.size X X'
abbrev QF(w:aw)(gc:aE)(lc:Array az)(up B s own':aB bP):Prop:=∀ X aS U g c pB cB p cs,au w w X->kj X aS U up g c (ah pB B.length cB)->w.heap.size<=aS->aS<=X.heap.size->(∀ Y,au aS X Y->bI Y pB B)->(∀ Y,au aS X Y->bI Y p s) ->
 ay aP gc (#[aj (aO U),ah p s.length cs]++lc) X (iA own' aS U g (ah pB B.length cB) X)
abbrev Enters(gf:aE):Prop:=∀ args w,(callFunc gf args).run aP w=.ok (.enter gf args) w
theorem Kz(w:aw)(a:aC aJ)(k c:aE)(pl:aC aJ)(n cl:aE)(er ea:aF)(sl:aB bP)(BR:ZL w a k c pl n cl er ea sl)(he:¬ er=0)(ga gc:aE)(la lc:Array az):ay aP 122 #[ar #[ah a k c,ah pl n cl],.func (.func ga) #[] la,.func (.func gc) #[] lc] w (lL er [] [] w):=by have nN:ax (au (w.heap.size+2) ((w.alloc (aM #[ah a k c,ah pl n cl] 26)).alloc (aM #[ah aN 0 0,ah aN 0 0] 26)) ((w.alloc (aM #[ah a k c,ah pl n cl] 26)).alloc (aM #[ah aN 0 0,ah aN 0 0] 26))):=aR _ _;go_enter func122,ntmps122;go_wp2_with (go_at_call 19;refine(BR _ (lG nN.out)).mono ?_;clear BR;rintro e w3 ⟨p3,c3,rfl,pK,zP,DZ,pL,QB⟩;have mm:ax (au (w.heap.size+2) ((w.alloc (aM #[ah a k c,ah pl n cl] 26)).alloc (aM #[ah aN 0 0,ah aN 0 0] 26)) w3):=AL nN.out pL;obtain⟨⟨r0,r1⟩,⟨g0,g1⟩⟩:=xx mm.out;have gm:=bg r0;simp only at gm;have hne:w.heap.size+1≠w3.heap.size:=(by omega);clear pK zP DZ pL QB);go_region;go_wp2;obtain⟨s0,s1⟩:=PY (ah aN 0 0) (ah aN 0 0) r0 r1 (aM #[aa ag er,aa ag ea] 56);refine ba (v:=aL #[ar #[ah aN 0 0,ah aN 0 0],aa ag er]) (by simp[results,results122,go_sem,s0,s1]) rfl ?_;have h:=ny mm.out (ah aN 0 0) (ah aN 0 0);exact lL.none ((h.alloc h.size _).drew)
theorem zD{w3:aw}{B:aE}{x y:az}(a b:az)(r0:w3.cell? B=aO x)(r1:w3.cell? ⟨B,1,aN⟩=aO y):((w3.setCell B a).setCell ⟨B,1,aN⟩ b).cell? B=aO a/\((w3.setCell B a).setCell ⟨B,1,aN⟩ b).cell? ⟨B,1,aN⟩=aO b:=by
 constructor
 ·rw[cN _ ⟨B,1,aN⟩ ⟨B,0,aN⟩ _ (fun h=>by cases h)]
  exact dH _ _ _ (by rw[r0];rfl)
 ·refine dH _ _ _ ?_
  rw[cN _ ⟨B,0,aN⟩ ⟨B,1,aN⟩ _ (fun h=>by cases h),r1];rfl
theorem L8{o:Obj}{cs:Array az}{b:aE}(hO:Own W b c l)(h:au (w.heap.size+2) ((w.alloc o).alloc (aM cs 26)) W):b≠w.heap.size+1:=by
 intro e;obtain⟨eI,hc,_⟩:=hO;have h1:=h.block (w.heap.size+1) (by omega);rw[<- e,hc]at h1;have h2:((w.alloc o).alloc (aM cs 26)).heap[b]?=aO (aM cs 26):=by rw[e];have hs:(w.alloc o).heap.size=w.heap.size+1:=cE w o;show((w.alloc o).heap.push _)[w.heap.size+1]?=_;rw[<- hs,FG,aY rfl]
 rw[h2]at h1;have:=qB h1;injection this with _ ht _
 exact aG ht (by decide)
theorem gC.oa{v:az}(h:gC w aS v ls)(a:aJ)(x:az)(ha:a.block<aS):gC (w.setCell a x) aS v ls:=by refine⟨h.1,h.2.imp id ?_⟩;rintro⟨g,cap,eI,e,hg,hh,r⟩;exact⟨g,cap,eI,e,hg,(cI _ _ _ _ (by omega)).trans hh,r⟩
theorem TW{w8:aw}{o:Obj}{cs:Array az}{g7 c7 on ln:aE}{own':aB bP}{p8:aC aJ}{c8:aE}(hB:au (w.heap.size+2) ((w.alloc o).alloc (aM cs 26)) w8)(hO:Own w8 g7 c7 own')(hg:w.heap.size+2<=g7)(hR:gC w8 aS (ah p8 ln c8) lo)(hb:w.heap.size+2<=aS)(hm:lo.map (·.es)=ls.map (·.es))(hL:∀ x∈lo,qw aS w8 x)(hF:anM own')(oq:own'.length<=80)(rS:∀ x∈ls,x.es.length<=80)(G7:∀ x∈ls,anM x.es)(Sq:on=own'.length)(ka:ln=lo.length)(va vb:az):lL 0 own' (ls.map (·.es)) w (aK (aL #[ar #[ah (aO g7) on c7,ah p8 ln c8],aa ag 0])) ((w8.setCell ⟨↑w+1,0,aN⟩ va).setCell ⟨↑w+1,1,aN⟩ vb):=by
 have hR':=(hR.oa ⟨↑w+1,0,aN⟩ va (by simp only;omega)).oa ⟨↑w+1,1,aN⟩ vb (by simp only;omega);obtain⟨p,c,hv,hT,hc,hn,rR⟩:=hR'.Ir;injection hv with e1 e2 e3
 subst e1 e3;have acG:∀ {b c:aE} {l:aB bP},Own w8 b c l->Own ((w8.setCell ⟨↑w+1,0,aN⟩ va).setCell ⟨↑w+1,1,aN⟩ vb) b c l:=fun{b c l} h=>by have hne:=L8 h hB;exact(h.bB (cI _ _ _ _ (by simpa using hne))).bB (cI _ _ _ _ (by simpa using hne))
 refine⟨⟨aO ⟨g7,0,aN⟩,c7,own'⟩,lo,p8,c8,by rw[Sq,ka],rfl,hm,⟨⟨(acG hO).anO,hF,hO.len,by show own'.length<_;omega⟩,nofun,hT,fun x hx=>?_,hn,hc⟩,ny hB _ _,⟨(fun b off s h=>by cases h;omega),(fun b off s h=>by have:=rR b off s h;omega),(fun x hx b off s h=>by obtain⟨b',ot,_,pN⟩:=hL x hx;rw[ot]at h;cases h;omega)⟩⟩;obtain⟨b,ot,CY,pN⟩:=hL x hx;have qy:x.es∈ls.map (·.es):=by rw[<- hm];exact fT.2 ⟨x,hx,rfl⟩
 obtain⟨z,hz,hze⟩:=fT.1 qy;exact qw.ok ⟨b,ot,acG CY,pN⟩ (by rw[<- hze];exact G7 z hz) (by rw[<- hze];exact rS z hz)
theorem KC(y:Lay)(ls:aB Lay)(m:aF)(pl:aC aJ)(cl:aE)(w:aw)(wM:eZ w y ls pl cl)(ea:aF)(sl B:aB bP)(hB:B=(bG (ls.map (·.es))).2)(xv:du false sl)(qg:y.es.length<=80)(h4:ls.length<=4)(hz:(bG (ls.map (·.es))).1=0)(BR:ZL w y.ad y.es.length y.cap pl ls.length cl 0 ea sl)(hm:w.cell? ⟨0,0,aN⟩=aO (aa ag m))(ga gc:aE)(la lc:Array az)(ZN:Enters ga)(ZO:Enters gc)(ae:aF)(nW:Kd w ga la sl ae)(own':aB bP)(C2:ae=0->QF w gc lc y.es B sl own'/\anM own')(rS:∀ x∈ls,x.es.length<=80)(er:aF)(hE:er=if ae=0 then(if 80<own'.length then 5 else 0)else ae):ay aP 122 #[ar #[ah y.ad y.es.length y.cap,ah pl ls.length cl],.func (.func ga) #[] la,.func (.func gc) #[] lc] w (lL er (if er=0 then own' else[]) (if er=0 then ls.map (·.es)else[]) w):=by
 have tG:∀ W,au w w W->ay aP 20 #[ah pl ls.length cl] W (xM (ls.map (·.es)) W):=fun W hW=>by have h:=wM.bB hW;exact CL ls pl cl W h.anO (fun x hx=>⟨(h.each x hx).1.anO,(h.each x hx).2,rS x hx⟩) h4
 have aex:ax (∀ x∈ls,x.es.length<=80):=rS;have Nw:∀ W,au w w W->ay aP 169 #[ar #[ah y.ad y.es.length y.cap,ah pl ls.length cl]] W (yK y.es B W):=fun W hW=>by have h:=wM.bB hW;rw[hB];exact wm y ls m pl cl W h.up h.Wq qg h.anO (fun x hx=>(h.each x hx).1) h4 hz (held hW hm)
 have U3:ax (eZ w y ls pl cl):=wM;obtain⟨sn,ik⟩:=ee sl.length
 have FM:ax (sn=sl.length):=ik;obtain⟨k,hk⟩:=ee y.es.length
 have HK:ax (k=y.es.length):=hk;obtain⟨n,hn⟩:=ee ls.length
 have HN:ax (n=ls.length):=hn;rw[<- hk,<- hn]at BR Nw ⊢;rw[<- hn]at tG;have nN:ax (au (w.heap.size+2) ((w.alloc (aM #[ah y.ad k y.cap,ah pl n cl] 26)).alloc (aM #[ah aN 0 0,ah aN 0 0] 26)) ((w.alloc (aM #[ah y.ad k y.cap,ah pl n cl] 26)).alloc (aM #[ah aN 0 0,ah aN 0 0] 26))):=aR _ _;have aax:ax (sl.length<=80):=xv.len;simp only[Kd]at nW;rw[<- ik]at nW;clear ik hk hn wM xv qg hB hz hm;obtain⟨on,Sq⟩:=ee own'.length
 have WC:ax (on=own'.length):=Sq;rw[<- Sq]at hE;generalize hul:(if er=0 then own' else[])=ul;generalize YN:(if er=0 then ls.map (·.es)else[])=ll;have qH:ax ((er=if ae=0 then(if 80<on then 5 else 0)else ae)/\(if er=0 then own' else[])=ul/\(if er=0 then ls.map (·.es)else[])=ll):=⟨hE,hul,YN⟩
 clear Sq hE hul YN;simp only[QF]at C2;rw[<- FM.out]at C2;go_enter func122,ntmps122;go_wp2_with (first
  | (go_at_call 19;refine(BR _ (lG nN.out)).mono ?_;clear BR;rintro e w3 ⟨p3,c3,rfl,pK,zP,DZ,pL,QB⟩;have mm:ax (au (w.heap.size+2) ((w.alloc (aM #[ah y.ad k y.cap,ah pl n cl] 26)).alloc (aM #[ah aN 0 0,ah aN 0 0] 26)) (w3.alloc (aM #[aa ag 0,aa ag ea] 56))):=AL (AL nN.out pL) ((Grown.refl _).alloc _).below;have Hm:ax (bI (w3.alloc (aM #[aa ag 0,aa ag ea] 56)) p3 sl):=pK.grown ((Grown.refl _).alloc _);rw[<- FM.out]at zP ⊢;clear pK pL QB)
  | (go_at_fn ga;refine(nW _ p3 c3 (lG mm.out) Hm.out zP DZ).mono ?_;clear nW;rintro e w5 ⟨⟨v5,rfl⟩,xS⟩;have tE:ax (au (w.heap.size+2) ((w.alloc (aM #[ah y.ad k y.cap,ah pl n cl] 26)).alloc (aM #[ah aN 0 0,ah aN 0 0] 26)) w5):=AL mm.out xS;have Zz:ax (bI w5 p3 sl):=Hm.bB xS;obtain⟨⟨u0,u1⟩,_⟩:=FU tE.out;obtain⟨⟨r0,r1⟩,⟨f0,f1⟩⟩:=xx tE.out;clear xS;cases hz:(ae != 0))
  | (go_at_call 169;refine(Nw _ (lG tE.out)).mono ?_;clear Nw;rintro e w6 ⟨U,g,c,pB,cB,aS,rfl,wL,Ys,RV,RM,afw,CX⟩;have DS:ax _:=wL;have HL6:ax _:=RM;have XC:ax (au (w.heap.size+2) ((w.alloc (aM #[ah y.ad k y.cap,ah pl n cl] 26)).alloc (aM #[ah aN 0 0,ah aN 0 0] 26)) w6):=AL tE.out CX;have HS6:ax (∀ Y,au aS w6 Y->bI Y p3 sl):=(fun Y hY=>Zz.bB (CX.trans (hY.mono Ys)));have hw6:=CX.size;have D1:=tE.size;clear CX wL RM u0 u1 r0 r1 f0 f1)
  | (go_at_fn gc;refine((C2 (by simpa using hz)).1 _ aS U g c pB cB p3 c3 (lG XC.out) DS.out (by simp at D1;omega) RV HL6.out HS6.out).mono ?_;rintro e w7 ⟨rfl,⟨g7,c7,Yl,J7⟩,Vq⟩;have ie:=Vq.below DS.ub DS.gb RV;have JX:ax (au (w.heap.size+2) ((w.alloc (aM #[ah y.ad k y.cap,ah pl n cl] 26)).alloc (aM #[ah aN 0 0,ah aN 0 0] 26)) w7):=XC.trans (ie.mono (by simp at D1;omega));obtain⟨⟨u0,u1⟩,_⟩:=FU JX.out;obtain⟨⟨r0,r1⟩,⟨f0,f1⟩⟩:=xx JX.out;have k0:=Yl.c0;rw[<- WC.out]at k0;have ZH:ax _:=Yl;clear Vq Yl ie;by_cases RI:(80:aF)<(on:aF)))
 ·refine ba (v:=aL #[ar #[ah aN 0 0,ah aN 0 0],aa ag 5]) (by simp[results,results122,go_sem,r0,r1]) rfl ?_
  obtain⟨hE,rfl,rfl⟩:=qH.out;rw[aY (by simpa using hz),aY (by omega)]at hE;subst hE;exact lL.none (ny JX.out _ _)
 ·have afm:=ZH.ult
  have hUr:w.heap.size+1≠U:=by have:=ZH.ub;simp at D1;omega
  have akl:U≠w.heap.size+1:=lD hUr;go_region_held3 (fun w'=>w'.cell? U=aO (ah (aO g7) on c7)/\w'.cell? ⟨w,1,aN⟩=aO (ah pl n cl)) (go_keep) (first
   | (go_at_call 20;refine(tG _ (lG JX.out).drew).mono ?_;clear tG;rintro r w8 ⟨⟨v8,lo,rfl,uF,Qt,BM⟩,xT⟩;have QH:ax (au (w.heap.size+2) ((w.alloc (aM #[ah y.ad k y.cap,ah pl n cl] 26)).alloc (aM #[ah aN 0 0,ah aN 0 0] 26)) w8):=AL JX.out (((aR _ _).drew).trans xT);have q0:=(xT.cell (p:=U) afm).trans k0;have HO8:ax (Own w8 g7 c7 own'):=ZH.own.below (((aR _ _).drew).trans xT) ZH.own.lt;have HR8:ax _:=uF;have HM8:ax _:=Qt;have QK:ax _:=BM;obtain⟨p8,c8,Xj,_⟩:=uF.Ir;subst Xj;obtain⟨⟨q2,q1⟩,_⟩:=FU QH.out;obtain⟨⟨r0,r1⟩,⟨f0,f1⟩⟩:=xx QH.out;clear xT uF Qt BM u0 u1 k0))
  obtain⟨ln,ka⟩:=ee lo.length
  have Ca:ax (ln=lo.length):=ka;rw[<- ka];go_wp2;obtain⟨s0,s1⟩:=zD (ah (aO g7) on c7) (ah p8 ln c8) r0 r1;refine ba (v:=aL #[ar #[ah (aO g7) on c7,ah p8 ln c8],aa ag 0]) (by simp[results,results122,go_sem,s0,s1]) rfl ?_;have hr:gC w8 w7.drew.heap.size (ah p8 ln c8) lo:=by rw[ka];exact HR8.out
  have Z6:=ZH.gb;obtain⟨hE,rfl,rfl⟩:=qH.out;rw[aY (by simpa using hz),aW (by omega)]at hE;subst hE;exact TW QH.out HO8.out (by simp at D1;omega) hr (by have:=JX.size;simp at this;exact this) HM8.out QK.out (C2 (by simpa using hz)).2 (by rw[<- WC.out];omega) aex.out (fun x hx=>(U3.each x hx).1.fits) WC.out Ca.out _ _
 ·refine ba (v:=aL #[ar #[ah aN 0 0,ah aN 0 0],aa ag ae]) (by simp[results,results122,go_sem,r0,r1]) rfl ?_
  have hz:¬ ae=0:=by simpa using hz
  obtain⟨hE,rfl,rfl⟩:=qH.out;rw[aW hz]at hE;subst hE;rw[aW hz,aW hz];exact lL.none (ny tE.out _ _)
namespace PM
def dg(we ae:aF)(n:aE):aF:=if we=0 then(if ae=0 then(if 80<n then 5 else 0)else ae)else we
theorem mF{we ae:aF}{n:aE}:dg we ae n=0↔we=0/\ae=0/\n<=80:=by
 unfold dg;by_cases h1:we=0
 ·rw[aY h1]
  by_cases h2:ae=0
  ·rw[aY h2]
   by_cases h3:80<n
   ·rw[aY h3];exact⟨fun h=>aG h (by decide),fun h=>by omega⟩
   ·rw[aW h3];exact⟨fun _=>⟨h1,h2,by omega⟩,fun _=>rfl⟩
  ·rw[aW h2];exact⟨fun h=>aG h h2,fun h=>aG h.2.1 h2⟩
 ·rw[aW h1];exact⟨fun h=>aG h h1,fun h=>aG h.1 h1⟩
end PM
theorem oh(y:Lay)(ls:aB Lay)(m:aF)(pl:aC aJ)(cl:aE)(w:aw)(wM:eZ w y ls pl cl)(hm:w.cell? ⟨0,0,aN⟩=aO (aa ag m))(ga gc:aE)(la lc:Array az)(ZN:Enters ga)(ZO:Enters gc)(ae:aF)(own':aB bP)(nW:(bH (y.es::ls.map (·.es))).1=0->Kd w ga la (cO (y.es::ls.map (·.es))) ae)(C2:(bH (y.es::ls.map (·.es))).1=0->ae=0->QF w gc lc y.es (bG (ls.map (·.es))).2 (cO (y.es::ls.map (·.es))) own'/\anM own'):ay aP 122 #[ar #[ah y.ad y.es.length y.cap,ah pl ls.length cl],.func (.func ga) #[] la,.func (.func gc) #[] lc] w
   (lL (dg (bH (y.es::ls.map (·.es))).1 ae own'.length) (if dg (bH (y.es::ls.map (·.es))).1 ae own'.length=0 then own' else[]) (if dg (bH (y.es::ls.map (·.es))).1 ae own'.length=0 then ls.map (·.es)else[]) w):=by
 have BR:ZL w y.ad y.es.length y.cap pl ls.length cl (bH (y.es::ls.map (·.es))).1 ((bH (y.es::ls.map (·.es))).2:aE) (cO (y.es::ls.map (·.es))):=fun W hB=>by have h:=wM.bB hB;exact Dj y ls m pl cl W h.anO h.all h.nil (held hB hm)
 by_cases h1:(bH (y.es::ls.map (·.es))).1=0
 ·obtain⟨Uy,hz,hr⟩:=gT.1 h1
  rw[cj,bQ]at Uy;have qg:y.es.length<=80:=(hr _ (by simp)).len;have hzl:(bG (ls.map (·.es))).1=0:=(ox hz).1;have hsr:=cY (y.es::ls.map (·.es));have rS:∀ x∈ls,x.es.length<=80:=fun x hx=>(hr x.es (by simp;exact .inr ⟨x,hx,rfl⟩)).len
  rw[h1]at BR;exact KC y ls m pl cl w wM _ _ _ rfl hsr qg (by omega) hzl BR hm ga gc la lc ZN ZO ae (nW h1) own' (C2 h1) rS _ (by rw[dg,aY h1])
 ·have e:dg (bH (y.es::ls.map (·.es))).1 ae own'.length=(bH (y.es::ls.map (·.es))).1:=by rw[dg,aW h1]
  rw[e,aW h1,aW h1];exact Kz w y.ad y.es.length y.cap pl ls.length cl _ _ _ BR h1 ga gc la lc
/-! what is asked -/
theorem Tk(s:aB bP)(e:bP)(m:aF)(E0:aE)(p:aC aJ)(c:aE)(X:aw)(hL:bI X p s)(hF:anM s)(hn:s.length<=80)(hc:s.length<=c)(iR:p=aN->c=0)(he:e.bm.size<=maxLen)(R3:e.bm.size<4611686018427387904)(het:e.text.size<=maxLen)(h0:X.cell? E0=aO (ai e.bm))(h1:X.cell? ⟨E0,1,aN⟩=aO (aa ag e.bE))(h2:X.cell? ⟨E0,2,aN⟩=aO (ai e.text))(h3:X.cell? ⟨E0,3,aN⟩=aO (aq e.opq))(hm:X.cell? ⟨0,0,aN⟩=aO (aa ag m)):ay aP 120 #[ah p s.length c,aj (aO E0)] X fun r X'=>(∃ v,r=aK (aL #[v,aa ag (dW s e)]))/\au X X X':=by have hp:=V7 s e m p c X hL hF (by omega) hc iR he R3 het hm;generalize s.length=n at hp hc hn ⊢;generalize dW s e=pe at hp ⊢;generalize (if pe=0 then kM s e else[])=rl at hp;go_enter func120,ntmps120;go_wp2_with (go_at_call 121;refine hp.mono ?_;clear hp;rintro r w1 ⟨p1,c1,rfl,lj,Ef,Ge,hN⟩);go_ret2;exact⟨⟨_,rfl⟩,hN⟩
theorem Tv(s:aB bP)(q:aA)(m:aF)(E0:aE)(p:aC aJ)(c:aE)(X:aw)(hL:bI X p s)(hF:anM s)(hn:s.length<=80)(hc:s.length<=c)(iR:p=aN->c=0)(hq:q.size<=maxLen)(h0:X.cell? E0=aO (ai q))(hm:X.cell? ⟨0,0,aN⟩=aO (aa ag m)):ay aP 125 #[ah p s.length c,aj (aO E0)] X fun r X'=>(∃ v,r=aK (aL #[v,aa ag (eP s q)]))/\au X X X':=by have hp:=Mk s q m p c X hL hF (by omega) hc iR hq hm;generalize s.length=n at hp hc hn ⊢;generalize eP s q.data.toList=pe at hp ⊢;generalize (if pe=0 then pq s q else[])=rl at hp;go_enter func125,ntmps125;go_wp2_with (go_at_call 126;refine hp.mono ?_;clear hp;rintro r w1 ⟨p1,c1,rfl,lj,Ef,Ge,hN⟩);go_ret2;exact⟨⟨_,rfl⟩,hN⟩
theorem Pv(s:aB bP)(bS tw:aA)(m:aF)(E0 E1:aE)(p:aC aJ)(c:aE)(X:aw)(hL:bI X p s)(hF:anM s)(hn:s.length<=80)(hc:s.length<=c)(iR:p=aN->c=0)(hf:bS.size<=maxLen)(ht:tw.size<=maxLen)(h0:X.cell? E0=aO (ai bS))(h1:X.cell? E1=aO (ai tw))(hm:X.cell? ⟨0,0,aN⟩=aO (aa ag m)):ay aP 130 #[ah p s.length c,aj (aO E0),aj (aO E1)] X fun r X'=>(∃ v,r=aK (aL #[v,aa ag (ez s bS tw)]))/\au X X X':=by
 have hp:=SZ s bS tw m p c X hL hF (by omega) hc iR hf ht hm;have hp':ay aP 131 #[ah p s.length c,ai bS,ai tw] X fun r X'=>(∃ v,r=aK (aL #[v,aa ag (ez s bS tw)]))/\au X X X':=hp.mono (by
  rintro r X' ⟨l,⟨p1,c1,rfl,_,_,_,hN⟩,_⟩;exact⟨⟨_,rfl⟩,hN⟩)
 clear hp;generalize s.length=n at hp' hc hn ⊢;generalize ez s bS tw=pe at hp' ⊢;go_enter func130,ntmps130;go_wp2_with (go_at_call 131;refine hp'.mono ?_;clear hp';rintro r w1 ⟨⟨v,rfl⟩,hN⟩);go_ret2;exact⟨⟨_,rfl⟩,hN⟩
/-! what is changed -/
theorem Tl(own:aB bP)(e:bP)(aS U g c:aE)(vb:az)(E0:aE)(p:aC aJ)(n cs:aE)(X:aw)(hU:kj X aS U own g c vb)(hs:b7 own)(hF:anM own)(hl:own.length<=80)(he:e.bm.size<=80)(ht:e.text.size<=maxLen)(hne:e.p≠[])(h0:X.cell? E0=aO (ai e.bm))(h1:X.cell? ⟨E0,1,aN⟩=aO (aa ag e.bE))(h2:X.cell? ⟨E0,2,aN⟩=aO (ai e.text))(h3:X.cell? ⟨E0,3,aN⟩=aO (aq e.opq)):ay aP 123 #[aj (aO U),ah p n cs,aj (aO E0)] X (iA (cZ own e) aS U g vb X):=by have hh:=sX e.p.length own e aS U g c vb X (aV _) hU hs hF he ht hne (by have h1:e.p.length=e.bm.size:=ix _;omega);clear hU;go_enter func123,ntmps123;go_wp2_with (go_at_call 124;refine hh.mono ?_;clear hh;rintro r w1 ⟨rfl,hH⟩;have HH:ax _:=hH;clear hH);refine ba (eC rfl _ _ _) rfl ?_;exact⟨rfl,HH.out⟩
theorem Tw(own B:aB bP)(q:aA)(aS U g c:aE)(pB:aC aJ)(cB:aE)(E0:aE)(p:aC aJ)(n cs:aE)(X:aw)(hU:kj X aS U own g c (ah pB B.length cB))(eD:aS<=X)(yB:∀ Y,au aS X Y->bI Y pB B)(hs:b7 own)(hF:anM own)(hl:own.length<=80)(hB:du false B)(hq:q.size<=80)(hne:q.data.toList≠[])(h0:X.cell? E0=aO (ai q)):ay aP 127 #[aj (aO U),ah p n cs,aj (aO E0)] X (iA (ec own B q) aS U g (ah pB B.length cB) X):=by have hh:=Ip own B q aS U g c pB cB X hU eD yB hs hF hB.anF (lJ hB) hB.len hq hne (by omega);clear hU yB;go_enter func127,ntmps127;go_wp2_with (go_at_call 128;refine hh.mono ?_;clear hh;rintro r w1 ⟨rfl,hH⟩;have HH:ax _:=hH;clear hH);refine ba (eC rfl _ _ _) rfl ?_;exact⟨rfl,HH.out⟩
theorem Pw(own B s:aB bP)(bS tw:aA)(aS U g c:aE)(pB:aC aJ)(cB:aE)(E0 E1:aE)(p:aC aJ)(cs:aE)(X:aw)(hU:kj X aS U own g c (ah pB B.length cB))(eD:aS<=X)(yB:∀ Y,au aS X Y->bI Y pB B)(Vp:∀ Y,au aS X Y->bI Y p s)(hs:b7 own)(hF:anM own)(hl:own.length<=80)(hB:du false B)(hm:ez s bS tw=0)(h0:X.cell? E0=aO (ai bS))(h1:X.cell? E1=aO (ai tw)):ay aP 132 #[aj (aO U),ah p s.length cs,aj (aO E0),aj (aO E1)] X (iA (if bS.data.toList=tw.data.toList then own else kh own B s bS tw) aS U g (ah pB B.length cB) X):=by
 by_cases qF:bS.data.toList=tw.data.toList
 ·rw[aY qF]
  obtain⟨e1,e2⟩:=kZ qF;have HU:ax _:=hU;clear hU yB Vp qF;go_enter func132,ntmps132;go_wp2;refine ba (eC rfl _ _ _) rfl ?_;exact wg HU.out (fx.refl _ _ _) (aR _ _)
 ·rw[aW qF]
  have lH:=wQ hm qF;obtain⟨e1,e2⟩:=j8 qF;obtain⟨a,ha,Uq⟩:=lH.src;have Z5:anI bS.data.toList=true:=by rw[<- Uq];exact lH.right.anI ha
  have hh:=ML own B s bS tw aS U g c pB p cB cs X hU eD yB Vp hs hF hB.anF (lJ hB) hB.len lH.right.anF (lJ lH.right) lH.right.len (fG Z5) (fG lH.Wp) lH.Af lH.Qc hl (fun e he=>fG (lH.right.anI he)) (fun e he hi=>by
   have mz:=lH.cl e he (lH.acC hi) hi;exact⟨fG mz,gM mz⟩)
  clear hU yB Vp qF lH ha Uq Z5;generalize s.length=n at hh ⊢;generalize kh own B s bS tw=mu at hh ⊢;go_enter func132,ntmps132;go_wp2_with (go_at_call 133;refine hh.mono ?_;clear hh;rintro r w1 ⟨rfl,hH⟩;have HH:ax _:=hH;clear hH);refine ba (eC rfl _ _ _) rfl ?_;exact⟨rfl,HH.out⟩
theorem gj.oa{p:aC aJ}{t:aB Lay}(h:gj W p t)(a:aJ)(v:az)(hne:∀ b off s,p=aO ⟨b,off,s⟩->a.block≠b):gj (W.setCell a v) p t:=by
 rcases h with h|⟨b,off,rfl,hb,hc⟩
 ·exact .inl h
 ·refine .inr ⟨b,off,rfl,by simpa using hb,fun j x hx=>?_⟩
  rw[World.cell?_setCell_far _ _ _ _ (hne b off aN rfl)];exact hc j x hx
theorem eZ.oa(h:eZ w y lo pl cl)(hN:qC aS y lo pl)(a:aJ)(v:az)(ha:a.block<aS):eZ (w.setCell a v) y lo pl cl:=
 ⟨⟨h.up.anO.oa a v (fun b off s e=>by have:=hN.1 b off s e;omega),h.up.fits,h.up.cap,h.up.small⟩,h.Wq,h.anO.oa a v (fun b off s e=>by have:=hN.2.1 b off s e;omega),fun x hx=>⟨⟨(h.each x hx).1.anO.oa a v (fun b off s e=>by have:=hN.2.2 x hx b off s e;omega),(h.each x hx).1.fits,(h.each x hx).1.cap,(h.each x hx).1.small⟩,(h.each x hx).2⟩,h.nil,h.cap⟩
theorem qC.mono{b b':aE}(h:qC b y lo pl)(hb:b'<=b):qC b' y lo pl:=
 ⟨fun x o s e=>bc hb (h.1 x o s e),fun x o s e=>bc hb (h.2.1 x o s e),fun z hz x o s e=>bc hb (h.2.2 z hz x o s e)⟩
theorem GB{W0 w4:aw}{er:aF}{up:aB bP}{cq:aB (aB bP)}{k n:aE}(hW:au w w W0)(hB:au (W0.heap.size+1) (W0.alloc (aM #[ah aN 0 0,ah aN 0 0] 26)) w4)(h1:y.es=up)(h2:lo.map (·.es)=cq)(hk:k=y.es.length)(hn:n=lo.length)(lH:eZ w4 y lo pl cl)(j5:qC (W0.heap.size+1) y lo pl)(va vb:az):lL er up cq w (aK (aL #[ar #[ah y.ad k y.cap,ah pl n cl],aa ag er])) ((w4.setCell W0 va).setCell ⟨W0,1,aN⟩ vb):=by have hs:=hW.size;refine⟨y,lo,pl,cl,by rw[hk,hn],h1,h2,(lH.oa j5 _ _ (by simp only;omega)).oa j5 _ _ (by simp only;omega),?_,j5.mono (by omega)⟩;exact Below.bK hW (iI hB va vb)
theorem EL(W:aw)(H:aE)(hH:H=W)(v:az)(T:TypeId):(W.alloc (aM #[v] T)).cell? H=aO v:=by subst hH;simp
theorem uB(y:Lay)(ls:aB Lay)(m:aF)(pl:aC aJ)(cl:aE)(e:bP)(he:e.bm.size<=maxLen)(R3:e.bm.size<4611686018427387904)(het:e.text.size<=maxLen)(w:aw)(wM:eZ w y ls pl cl)(hm:w.cell? ⟨0,0,aN⟩=aO (aa ag m)):ay aP 77 #[ar #[ah y.ad y.es.length y.cap,ah pl ls.length cl],ar #[ai e.bm, aa ag e.bE, ai e.text, aq e.opq]] w
   (lL (dg (bH (y.es::ls.map (·.es))).1 (dW (cO (y.es::ls.map (·.es))) e) (cZ y.es e).length) (if dg (bH (y.es::ls.map (·.es))).1 (dW (cO (y.es::ls.map (·.es))) e) (cZ y.es e).length=0 then cZ y.es e else[]) (if dg (bH (y.es::ls.map (·.es))).1 (dW (cO (y.es::ls.map (·.es))) e) (cZ y.es e).length=0 then ls.map (·.es)else[]) w):=by
 obtain⟨W0,rQ⟩:=o7 (((w.alloc (aM #[ah y.ad y.es.length y.cap,ah pl ls.length cl] 26)).alloc (aM #[ai e.bm,aa ag e.bE,ai e.text,aq e.opq] 88)))
 have pJ:au w w W0:=by rw[<- rQ];exact(((aR _ _).alloc (aV _) _).alloc (by simp) _)
 have Da:W0.heap.size=w.heap.size+2:=by rw[<- rQ];simp
 have hE:∀ j v,(fy e)[j]?=aO v->∀ X,au (W0.alloc (aM #[ah aN 0 0,ah aN 0 0] 26)).heap.size (W0.alloc (aM #[ah aN 0 0,ah aN 0 0] 26)) X->X.cell? ⟨↑w+1,j,aN⟩=aO v:=fun j v hv X hX=>by have h1:=lK (w.alloc (aM #[ah y.ad y.es.length y.cap,ah pl ls.length cl] 26)) e (w.heap.size+1) (by simp) j v hv;rw[dG,dD,rQ]at h1;have hl:=bg h1;simp only at hl;exact(hX.cell (p:=⟨↑w+1,j,aN⟩) (by simp;omega)).trans (bj _ h1)
 have ph:au w w (W0.alloc (aM #[ah aN 0 0,ah aN 0 0] 26)):=pJ.alloc pJ.size _;have IB:au W0 W0 (W0.alloc (aM #[ah aN 0 0,ah aN 0 0] 26)):=(aR _ _).alloc (aV _) _;have xE:=oh y ls m pl cl (W0.alloc (aM #[ah aN 0 0,ah aN 0 0] 26)) (wM.bB ph) (held ph hm) 120 123 #[aj (aO ⟨↑w+1,0,aN⟩)] #[aj (aO ⟨↑w+1,0,aN⟩)] (enters_of func120 (by kernel_rfl) rfl) (enters_of func123 (by kernel_rfl) rfl) (dW (cO (y.es::ls.map (·.es))) e) (cZ y.es e)
  (fun h X p c hB hL hc hn=>Tk _ e m (w.heap.size+1) p c X hL (lJ (cY _)) (cY _).len hc hn he R3 het (hE 0 _ rfl X hB) (hE 1 _ rfl X hB) (hE 2 _ rfl X hB) (hE 3 _ rfl X hB) (held (Below.bK ph hB) hm))
  (fun h ha=>by
    obtain⟨_,_,hr⟩:=gT.1 h;have hU:=hr y.es (by simp);have hw:=(zz ha).2.1;have mz:=dX hw;exact⟨fun X aS U g c pB cB p cs hB hUp _ _ _ _=>Tl y.es e aS U g c _ (w.heap.size+1) p _ cs X hUp hU.anF (pI hU.good) hU.len (fG mz) het (gM mz) (hE 0 _ rfl X hB) (hE 1 _ rfl X hB) (hE 2 _ rfl X hB) (hE 3 _ rfl X hB),xQ (pI hU.good) (fG mz) het⟩)
 generalize dg (bH (y.es::ls.map (·.es))).1 (dW (cO (y.es::ls.map (·.es))) e) (cZ y.es e).length=er at xE ⊢;generalize (if er=0 then cZ y.es e else[])=rl at xE ⊢;generalize (if er=0 then ls.map (·.es)else[])=rls at xE ⊢;have HBW:ax (au w w W0):=pJ;have xu:W0.heap.size=w.heap.size+2:=Da;rw[<- rQ]at xE;obtain⟨k,hk⟩:=ee y.es.length
 obtain⟨n,hn⟩:=ee ls.length
 rw[<- hk,<- hn]at xE ⊢;have U4:ax (((w.alloc (aM #[ah y.ad k y.cap,ah pl n cl] 26)).alloc (aM #[ai e.bm,aa ag e.bE,ai e.text,aq e.opq] 88))=W0):=by rw[hk,hn];exact rQ
 have BX:((w.alloc (aM #[ah y.ad k y.cap,ah pl n cl] 26)).alloc (aM #[ai e.bm,aa ag e.bE,ai e.text,aq e.opq] 88)).heap.size=w.heap.size+2:=by simp
 clear wM hm ph IB pJ rQ hk hn hE;go_enter func77,ntmps77;go_wp2_with (go_at_call 122;refine xE.mono ?_;clear xE;rintro r w4 ⟨y',lo,qA,cl',rfl,h1,h2,lH,IA,j5⟩;rw[U4.out]at IA j5;have UE:(W0.alloc (aM #[ah aN 0 0,ah aN 0 0] 26)).heap.size=W0.heap.size+1:=cE _ _;rw[UE]at IA j5;obtain⟨⟨r0,r1⟩,⟨f0,f1⟩⟩:=nw (bC _) IA;rw[xu]at r0 r1 f0 f1;have HE:ax (y'.es=rl/\lo.map (·.es)=rls/\eZ w4 y' lo qA cl'/\qC (W0.heap.size+1) y' lo qA/\au (W0.heap.size+1) (W0.alloc (aM #[ah aN 0 0,ah aN 0 0] 26)) w4):=⟨h1,h2,lH,j5,IA⟩;clear h1 h2 lH j5 IA UE;obtain⟨k',Lc⟩:=ee y'.es.length;obtain⟨n',Em⟩:=ee lo.length;have HK:ax (k'=y'.es.length/\n'=lo.length):=⟨Lc,Em⟩;rw[<- Lc,<- Em];clear Lc Em);obtain⟨s0,s1⟩:=zD (ah y'.ad k' y'.cap) (ah qA n' cl') r0 r1;refine ba (v:=aL #[ar #[ah y'.ad k' y'.cap,ah qA n' cl'],aa ag er]) (by simp[results,results77,go_sem,s0,s1]) rfl ?_;have:=GB (er:=er) HBW.out HE.2.2.2.2 HE.1 HE.2.1 HK.1 HK.2 HE.2.2.1 HE.2.2.2.1 (ah y'.ad k' y'.cap) (ah qA n' cl');rw[xu]at this;exact this
theorem B8(y:Lay)(ls:aB Lay)(m:aF)(pl:aC aJ)(cl:aE)(q:aA)(hq:q.size<=maxLen)(w:aw)(wM:eZ w y ls pl cl)(hm:w.cell? ⟨0,0,aN⟩=aO (aa ag m)):ay aP 79 #[ar #[ah y.ad y.es.length y.cap,ah pl ls.length cl],ai q] w
   (lL (dg (bH (y.es::ls.map (·.es))).1 (eP (cO (y.es::ls.map (·.es))) q) (ec y.es (bG (ls.map (·.es))).2 q).length) (if dg (bH (y.es::ls.map (·.es))).1 (eP (cO (y.es::ls.map (·.es))) q) (ec y.es (bG (ls.map (·.es))).2 q).length=0 then ec y.es (bG (ls.map (·.es))).2 q else[]) (if dg (bH (y.es::ls.map (·.es))).1 (eP (cO (y.es::ls.map (·.es))) q) (ec y.es (bG (ls.map (·.es))).2 q).length=0 then ls.map (·.es)else[]) w):=by
 obtain⟨W0,rQ⟩:=o7 (((w.alloc (aM #[ah y.ad y.es.length y.cap,ah pl ls.length cl] 26)).alloc (aM #[ai q] 9)))
 have pJ:au w w W0:=by rw[<- rQ];exact(((aR _ _).alloc (aV _) _).alloc (by simp) _)
 have Da:W0.heap.size=w.heap.size+2:=by rw[<- rQ];simp
 have hE:∀ X,au (W0.alloc (aM #[ah aN 0 0,ah aN 0 0] 26)).heap.size (W0.alloc (aM #[ah aN 0 0,ah aN 0 0] 26)) X->X.cell? ⟨↑w+1,0,aN⟩=aO (ai q):=fun X hX=>by
  have h1:W0.cell? ⟨↑w+1,0,aN⟩=aO (ai q):=by rw[<- rQ];simp
  exact(hX.cell (p:=⟨↑w+1,0,aN⟩) (by simp;omega)).trans (bj _ h1)
 have ph:au w w (W0.alloc (aM #[ah aN 0 0,ah aN 0 0] 26)):=pJ.alloc pJ.size _;have IB:au W0 W0 (W0.alloc (aM #[ah aN 0 0,ah aN 0 0] 26)):=(aR _ _).alloc (aV _) _;have xE:=oh y ls m pl cl (W0.alloc (aM #[ah aN 0 0,ah aN 0 0] 26)) (wM.bB ph) (held ph hm) 125 127 #[aj (aO ⟨↑w+1,0,aN⟩)] #[aj (aO ⟨↑w+1,0,aN⟩)] (enters_of func125 (by kernel_rfl) rfl) (enters_of func127 (by kernel_rfl) rfl) (eP (cO (y.es::ls.map (·.es))) q) (ec y.es (bG (ls.map (·.es))).2 q)
  (fun h X p c hB hL hc hn=>Tv _ q m (w.heap.size+1) p c X hL (lJ (cY _)) (cY _).len hc hn hq (hE X hB) (held (Below.bK ph hB) hm))
  (fun h ha=>by
    obtain⟨_,hz,hr⟩:=gT.1 h;have hU:=hr y.es (by simp);obtain⟨hsr,⟨a,F4,BO⟩,_⟩:=vZ ha;have mz:anI q.data.toList=true:=by rw[<- BO];exact hsr.anI F4
    exact⟨fun X aS U g c pB cB p cs hB hUp _ uX yB _=>Tw y.es _ q aS U g c pB cB (w.heap.size+1) p _ cs X hUp uX yB hU.anF (pI hU.good) hU.len (lQ (ox hz).1) (fG mz) (gM mz) (hE X hB),Ac (pI hU.good) (fG mz)⟩)
 generalize dg (bH (y.es::ls.map (·.es))).1 (eP (cO (y.es::ls.map (·.es))) q) (ec y.es (bG (ls.map (·.es))).2 q).length=er at xE ⊢;generalize (if er=0 then ec y.es (bG (ls.map (·.es))).2 q else[])=rl at xE ⊢;generalize (if er=0 then ls.map (·.es)else[])=rls at xE ⊢;have HBW:ax (au w w W0):=pJ;have xu:W0.heap.size=w.heap.size+2:=Da;rw[<- rQ]at xE;obtain⟨k,hk⟩:=ee y.es.length
 obtain⟨n,hn⟩:=ee ls.length
 rw[<- hk,<- hn]at xE ⊢;have U4:ax (((w.alloc (aM #[ah y.ad k y.cap,ah pl n cl] 26)).alloc (aM #[ai q] 9))=W0):=by rw[hk,hn];exact rQ
 have BX:((w.alloc (aM #[ah y.ad k y.cap,ah pl n cl] 26)).alloc (aM #[ai q] 9)).heap.size=w.heap.size+2:=by simp
 clear wM hm ph IB pJ rQ hk hn hE;go_enter func79,ntmps79;go_wp2_with (go_at_call 122;refine xE.mono ?_;clear xE;rintro r w4 ⟨y',lo,qA,cl',rfl,h1,h2,lH,IA,j5⟩;rw[U4.out]at IA j5;have UE:(W0.alloc (aM #[ah aN 0 0,ah aN 0 0] 26)).heap.size=W0.heap.size+1:=cE _ _;rw[UE]at IA j5;obtain⟨⟨r0,r1⟩,⟨f0,f1⟩⟩:=nw (bC _) IA;rw[xu]at r0 r1 f0 f1;have HE:ax (y'.es=rl/\lo.map (·.es)=rls/\eZ w4 y' lo qA cl'/\qC (W0.heap.size+1) y' lo qA/\au (W0.heap.size+1) (W0.alloc (aM #[ah aN 0 0,ah aN 0 0] 26)) w4):=⟨h1,h2,lH,j5,IA⟩;clear h1 h2 lH j5 IA UE;obtain⟨k',Lc⟩:=ee y'.es.length;obtain⟨n',Em⟩:=ee lo.length;have HK:ax (k'=y'.es.length/\n'=lo.length):=⟨Lc,Em⟩;rw[<- Lc,<- Em];clear Lc Em);obtain⟨s0,s1⟩:=zD (ah y'.ad k' y'.cap) (ah qA n' cl') r0 r1;refine ba (v:=aL #[ar #[ah y'.ad k' y'.cap,ah qA n' cl'],aa ag er]) (by simp[results,results79,go_sem,s0,s1]) rfl ?_;have:=GB (er:=er) HBW.out HE.2.2.2.2 HE.1 HE.2.1 HK.1 HK.2 HE.2.2.1 HE.2.2.2.1 (ah y'.ad k' y'.cap) (ah qA n' cl');rw[xu]at this;exact this
theorem EC(y:Lay)(ls:aB Lay)(m:aF)(pl:aC aJ)(cl:aE)(bS tw:aA)(hf:bS.size<=maxLen)(ht:tw.size<=maxLen)(w:aw)(wM:eZ w y ls pl cl)(hm:w.cell? ⟨0,0,aN⟩=aO (aa ag m)):ay aP 82 #[ar #[ah y.ad y.es.length y.cap,ah pl ls.length cl],ai bS,ai tw] w
   (lL (dg (bH (y.es::ls.map (·.es))).1 (ez (cO (y.es::ls.map (·.es))) bS tw) (if bS.data.toList=tw.data.toList then y.es else kh y.es (bG (ls.map (·.es))).2 (cO (y.es::ls.map (·.es))) bS tw).length) (if dg (bH (y.es::ls.map (·.es))).1 (ez (cO (y.es::ls.map (·.es))) bS tw) (if bS.data.toList=tw.data.toList then y.es else kh y.es (bG (ls.map (·.es))).2 (cO (y.es::ls.map (·.es))) bS tw).length=0 then if bS.data.toList=tw.data.toList then y.es else kh y.es (bG (ls.map (·.es))).2 (cO (y.es::ls.map (·.es))) bS tw else[]) (if dg (bH (y.es::ls.map (·.es))).1 (ez (cO (y.es::ls.map (·.es))) bS tw) (if bS.data.toList=tw.data.toList then y.es else kh y.es (bG (ls.map (·.es))).2 (cO (y.es::ls.map (·.es))) bS tw).length=0 then ls.map (·.es)else[]) w):=by
 obtain⟨W0,rQ⟩:=o7 ((((w.alloc (aM #[ah y.ad y.es.length y.cap,ah pl ls.length cl] 26)).alloc (aM #[ai bS] 9)).alloc (aM #[ai tw] 9)))
 have pJ:au w w W0:=by rw[<- rQ];exact((((aR _ _).alloc (aV _) _).alloc (by simp) _).alloc (by simp;omega) _)
 have Da:W0.heap.size=w.heap.size+3:=by rw[<- rQ];simp
 have hE:∀ X,au (W0.alloc (aM #[ah aN 0 0,ah aN 0 0] 26)).heap.size (W0.alloc (aM #[ah aN 0 0,ah aN 0 0] 26)) X->X.cell? ⟨↑w+1,0,aN⟩=aO (ai bS):=fun X hX=>by
  have h1:W0.cell? ⟨↑w+1,0,aN⟩=aO (ai bS):=by rw[<- rQ];exact bj _ (EL _ _ (by simp) _ _)
  exact(hX.cell (p:=⟨↑w+1,0,aN⟩) (by simp;omega)).trans (bj _ h1)
 have hE2:∀ X,au (W0.alloc (aM #[ah aN 0 0,ah aN 0 0] 26)).heap.size (W0.alloc (aM #[ah aN 0 0,ah aN 0 0] 26)) X->X.cell? ⟨↑w+2,0,aN⟩=aO (ai tw):=fun X hX=>by
  have h1:W0.cell? ⟨↑w+2,0,aN⟩=aO (ai tw):=by rw[<- rQ];exact EL _ _ (by simp) _ _
  exact(hX.cell (p:=⟨↑w+2,0,aN⟩) (by simp;omega)).trans (bj _ h1)
 have ph:au w w (W0.alloc (aM #[ah aN 0 0,ah aN 0 0] 26)):=pJ.alloc pJ.size _;have IB:au W0 W0 (W0.alloc (aM #[ah aN 0 0,ah aN 0 0] 26)):=(aR _ _).alloc (aV _) _;have xE:=oh y ls m pl cl (W0.alloc (aM #[ah aN 0 0,ah aN 0 0] 26)) (wM.bB ph) (held ph hm) 130 132 #[aj (aO ⟨↑w+1,0,aN⟩),aj (aO ⟨↑w+2,0,aN⟩)] #[aj (aO ⟨↑w+1,0,aN⟩),aj (aO ⟨↑w+2,0,aN⟩)] (enters_of func130 (by kernel_rfl) rfl) (enters_of func132 (by kernel_rfl) rfl) (ez (cO (y.es::ls.map (·.es))) bS tw) (if bS.data.toList=tw.data.toList then y.es else kh y.es (bG (ls.map (·.es))).2 (cO (y.es::ls.map (·.es))) bS tw)
  (fun h X p c hB hL hc hn=>Pv _ bS tw m (w.heap.size+1) (w.heap.size+2) p c X hL (lJ (cY _)) (cY _).len hc hn hf ht (hE X hB) (hE2 X hB) (held (Below.bK ph hB) hm))
  (fun h ha=>by
    obtain⟨_,hz,hr⟩:=gT.1 h;have hU:=hr y.es (by simp);have xu:cO (y.es::ls.map (·.es))=(bG (y.es::ls.map (·.es))).2:=by rw[cO,aY h]
    exact⟨fun X aS U g c pB cB p cs hB hUp _ uX yB Vp=>Pw y.es _ _ bS tw aS U g c pB cB (w.heap.size+1) (w.heap.size+2) p cs X hUp uX yB Vp hU.anF (pI hU.good) hU.len (lQ (ox hz).1) ha (hE X hB) (hE2 X hB),by
     split
     ·exact pI hU.good
     ·rename_i hne
      rw[xu]at ha ⊢;exact pI (Dl (Ks hz rfl) ha hne).1⟩)
 generalize dg (bH (y.es::ls.map (·.es))).1 (ez (cO (y.es::ls.map (·.es))) bS tw) (if bS.data.toList=tw.data.toList then y.es else kh y.es (bG (ls.map (·.es))).2 (cO (y.es::ls.map (·.es))) bS tw).length=er at xE ⊢;generalize (if er=0 then if bS.data.toList=tw.data.toList then y.es else kh y.es (bG (ls.map (·.es))).2 (cO (y.es::ls.map (·.es))) bS tw else[])=rl at xE ⊢;generalize (if er=0 then ls.map (·.es)else[])=rls at xE ⊢;have HBW:ax (au w w W0):=pJ;have xu:W0.heap.size=w.heap.size+3:=Da;rw[<- rQ]at xE;obtain⟨k,hk⟩:=ee y.es.length
 obtain⟨n,hn⟩:=ee ls.length
 rw[<- hk,<- hn]at xE ⊢;have U4:ax ((((w.alloc (aM #[ah y.ad k y.cap,ah pl n cl] 26)).alloc (aM #[ai bS] 9)).alloc (aM #[ai tw] 9))=W0):=by rw[hk,hn];exact rQ
 have BX:(((w.alloc (aM #[ah y.ad k y.cap,ah pl n cl] 26)).alloc (aM #[ai bS] 9)).alloc (aM #[ai tw] 9)).heap.size=w.heap.size+3:=by simp
 clear wM hm ph IB pJ rQ hk hn hE hE2;go_enter func82,ntmps82;go_wp2_with (go_at_call 122;refine xE.mono ?_;clear xE;rintro r w4 ⟨y',lo,qA,cl',rfl,h1,h2,lH,IA,j5⟩;rw[U4.out]at IA j5;have UE:(W0.alloc (aM #[ah aN 0 0,ah aN 0 0] 26)).heap.size=W0.heap.size+1:=cE _ _;rw[UE]at IA j5;obtain⟨⟨r0,r1⟩,⟨f0,f1⟩⟩:=nw (bC _) IA;rw[xu]at r0 r1 f0 f1;have HE:ax (y'.es=rl/\lo.map (·.es)=rls/\eZ w4 y' lo qA cl'/\qC (W0.heap.size+1) y' lo qA/\au (W0.heap.size+1) (W0.alloc (aM #[ah aN 0 0,ah aN 0 0] 26)) w4):=⟨h1,h2,lH,j5,IA⟩;clear h1 h2 lH j5 IA UE;obtain⟨k',Lc⟩:=ee y'.es.length;obtain⟨n',Em⟩:=ee lo.length;have HK:ax (k'=y'.es.length/\n'=lo.length):=⟨Lc,Em⟩;rw[<- Lc,<- Em];clear Lc Em);obtain⟨s0,s1⟩:=zD (ah y'.ad k' y'.cap) (ah qA n' cl') r0 r1;refine ba (v:=aL #[ar #[ah y'.ad k' y'.cap,ah qA n' cl'],aa ag er]) (by simp[results,results82,go_sem,s0,s1]) rfl ?_;have:=GB (er:=er) HBW.out HE.2.2.2.2 HE.1 HE.2.1 HK.1 HK.2 HE.2.2.1 HE.2.2.2.1 (ah y'.ad k' y'.cap) (ah qA n' cl');rw[xu]at this;exact this
