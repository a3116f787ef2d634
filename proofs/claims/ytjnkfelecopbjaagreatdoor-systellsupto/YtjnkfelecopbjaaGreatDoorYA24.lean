import Derived.Test.YtjnkfelecopbjaaGreatDoorYA21
open Go.Proofs.Tryz
open Go.Value renaming int->aa,slice->ah,string->ai,pointer->aj,bool->aq,agg->ar
open Go.IntKind renaming i64->ag
open Go.RowKit renaming Below->au
open Go renaming World->aw,Aside->ax,Calls->ay,Value->az,Addr->aJ
open _root_ renaming List->aB,Option->aC,Nat->aE,Int->aF,absurd->aG
open Bool renaming false->aH,true->aI
open Go.Ending renaming returned->aK
open Go.Obj renaming cells->aM
open Option renaming none->aN,some->aO
open Go.Proofs.Tryz renaming prog->aP
set_option linter.all false
set_option maxHeartbeats 8000000
set_option maxRecDepth 100000
namespace Go.Proofs.YtjnkfelecopbjaaGreatDoor
open Go.RowKit PM Go.Sort
section
variable {aS:aE}{W:aw}{B:aE}{s:Sy}{L:ja}
theorem Qg(h:cW aS W B s L)(cn cm:aF)(cp ct cx:ByteArray)(ca:Bool)(ow k j:aE)(op:qI)(f:Fl)(how:ow<4)(hk:k<8)(hl:s.ia (ow*8+k) j op f)(iL:s.bh.length<1000000)(tI:s.bJ.length<1000000):ay aP 29 #[aj (aO B),ar #[aa ag 5,aa ag ow,aa ag k,aa ag cn,aa ag cm,ai cp,ai ct,ai cx,aq ca]] W (ic aS B (if o5 cn=0 then s.jw j { op with pos:=cn }else s) (if o5 cn=0 then gz 0 ⟨#[]⟩else km (o5 cn)) L W):=by
 have HS:ax (gL aS B s L W ⟨5,ow,k,cn,cm,cp,ct,cx,ca⟩ _):=gL.start h _;have HL:ax (s.ia (ow*8+k) j op f):=hl;generalize hR:ic aS B _ _ L W=R;have HR:ax (_=R):=hR;clear hR h hl;go_enter func29,ntmps29;go_upto_region 0 with fail
 go_cut [3,4]from 3 to 4 (fun s3 s4 w=>s3=aj (aO W)/\s4=aj (aO ⟨↑W+1,0,aN⟩)/\ax (gL aS B s L W ⟨5,ow,k,cn,cm,cp,ct,cx,ca⟩ w))
 case first=>
  go_wp2_with fail;go_meet
  case rel=>exact⟨rfl,rfl,HS.out⟩
 obtain⟨rfl,rfl,HO⟩:=hcut;clear HS;obtain⟨⟨k0,k1,k2,k3,k4,k5,k6,k7,k8⟩,kl⟩:=HO.cells;obtain⟨L1,h1,lj⟩:=HO.ex;obtain⟨g,cd,lN,lg,d0,d1,d2,fz⟩:=h1.desc HL.gX;have c4:=h1.cells.2.2.2.2;rw[lN]at c4;have vB:=h1.fd (k:=ow*8+k) (by omega);rw[mI HL.l6,<- dh 5]at vB;have hj:j<s.bJ.length:=(aQ.1 HL.gX).1;obtain⟨no,hno⟩:∃ n,n=s.bJ.length:=⟨_,rfl⟩
 rw[<- hno]at c4 hj tI;have O6:(j:aF)<(no:aF):=by omega
 have UA:(ow:aF)<4:=by omega
 have He:(k:aF)<8:=by omega
 have g1:decide ((k:aF)<0)=aH:=bD (by omega);have g2:decide (7<(k:aF))=aH:=bD (by omega);have g3:decide ((j:aF)<0)=aH:=bD (by omega);have lz:=fun Y (hY:au wc.heap.size wc Y)=>kN (h1.bB hY) op.cM f HL.hfl iL
 have iy:ax (cW aS wc B s L1/\((∀ b,gV B L1 b->gV B L b\/W.heap.size<=b)/\L1.ex=fun b=>b=W.heap.size+1\/L.ex b)/\L1.vd=ah (aO g) no cd/\no=s.bJ.length):=⟨h1,lj,by rw[hno];exact lN,hno⟩
 have lB:=h1.lt;clear h1 lj lN hno fz;go_wp2_with fail;go_quiet (fail);go_wp2_with fail;go_quiet (fail);go_upto_region 5 with fail
 go_cut [5,6,7]from 21 to 64 (fun s5 s6 s7 w=>s5=aa ag j/\s6=aj (aO ⟨g,j*3,aN⟩)/\s7=ai (s.cQ f)/\ax (au wc wc w))
 case first=>
  go_wp2_with (go_at_call 55;refine(lz _ (below_draws ⟨_,rfl⟩)).mono ?_;rintro r w4 ⟨rfl,eO⟩;have HB:ax (au wc wc w4):=Below.bK (below_draws ⟨_,rfl⟩) eO;clear eO);go_meet
  case rel=>exact⟨rfl,rfl,rfl,HB.out⟩
 obtain⟨rfl,rfl,rfl,HB⟩:=hcut;replace HO:ax (gL aS B s L W ⟨5,ow,k,cn,cm,cp,ct,cx,ca⟩ wc):=HO.pure HB.out;replace iy:ax (cW aS wc B s L1/\((∀ b,gV B L1 b->gV B L b\/W.heap.size<=b)/\L1.ex=fun b=>b=W.heap.size+1\/L.ex b)/\L1.vd=ah (aO g) no cd/\no=s.bJ.length):=⟨iy.1.bB HB.out,iy.2⟩
 clear k0 k1 k2 k3 k4 k5 k6 k7 k8 kl vB c4 d0 d1 d2 lz g1 g2 g3 lB lg HB;obtain⟨⟨k0,k1,k2,k3,k4,k5,k6,k7,k8⟩,kl⟩:=HO.cells;obtain⟨_,_,lN,lg,d0,d1,d2,fz⟩:=iy.1.desc HL.gX;obtain⟨rfl,rfl⟩:g=_/\cd=_:=by rw[iy.2.2.1]at lN;injection lN with e1 e2 e3;injection e1 with e1;injection e1 with e1;exact⟨e1,e3⟩
 clear lN;have lB:=iy.1.lt;have hcs:cn<0\/1000<cn\/¬ cn<0/\¬ 1000<cn:=by omega
 rcases hcs with e|e|⟨e,e2⟩
 ·have e3:decide (cn<0)=aI:=dJ e
  go_wp2_with (go_at_call 27;refine(fP _ _).mono ?_;rintro r wb ⟨rfl,fR⟩;have HB:ax _:=HO.pure fR;obtain⟨⟨b0,b1,b2,b3⟩,z0,z1,z2,z3⟩:=cK HB.gz;clear fR);exact ba (v:=ar #[aa ag 3,aa ag 0,ai ⟨#[]⟩,ah aN 0 0]) (by simp[results,results29,go_sem,b0,b1,b2,b3]) rfl (by rw[<- HR.out,show o5 cn=3 from aY (.inl e),aW (by decide),aW (by decide)];exact HB.iT 3 0 ⟨#[]⟩)
 ·have e3:decide (cn<0)=aH:=bD (by omega)
  have e4:decide (1000<cn)=aI:=dJ e;go_wp2_with (go_at_call 27;refine(fP _ _).mono ?_;rintro r wb ⟨rfl,fR⟩;have HB:ax _:=HO.pure fR;obtain⟨⟨b0,b1,b2,b3⟩,z0,z1,z2,z3⟩:=cK HB.gz;clear fR);exact ba (v:=ar #[aa ag 3,aa ag 0,ai ⟨#[]⟩,ah aN 0 0]) (by simp[results,results29,go_sem,b0,b1,b2,b3]) rfl (by rw[<- HR.out,show o5 cn=3 from aY (.inr e),aW (by decide),aW (by decide)];exact HB.iT 3 0 ⟨#[]⟩)
 ·have e3:decide (cn<0)=aH:=bD e
  have e4:decide (1000<cn)=aH:=bD e2;have f2:=fz (j*3+2);have HP:ax _:=HO.step ⟨iy.1,iy.2.1⟩ (iy.1.Zk HL.gX (by rw[iy.2.2.1,iy.2.2.2]) cn);obtain⟨⟨b0,b1,b2,b3⟩,z0,z1,z2,z3⟩:=cK HP.gz;go_wp2_with fail;exact ba (v:=ar #[aa ag 0,aa ag 0,ai ⟨#[]⟩,ah aN 0 0]) (by simp[results,results29,go_sem,b0,b1,b2,b3]) rfl (by rw[<- HR.out,show o5 cn=0 from aW (by omega),aY rfl,aY rfl];exact HP.iT 0 0 ⟨#[]⟩)
end
section
variable {aS:aE}{W X:aw}{B:aE}{s:Sy}{L:ja}
theorem cW.TN(h:cW aS W B s L){k:aE}(hk:k<32){j:aC aE}{v:aF}(hv:v=match j with|none => -1|some j=>(j:aF))(hj:∀ i,j=aO i->i<s.bJ.length):iU aS B (s.dL k j) L W (W.setCell ⟨B,5+k,aN⟩ (aa ag v)):=by obtain⟨h1,h2⟩:=h.dL hk hv hj;exact⟨⟨L,h1,fun b hb=>.inl hb,rfl⟩,(aR aS W).setCell (p:=⟨B,5+k,aN⟩) h.aS _,h2⟩
theorem cW.SV(h:cW aS W B s L){i:aE}{f:Fl}(hf:s.bh[i]?=aO f){g c:aE}(hv:L.vo=ah (aO g) s.bh.length c)(hB:au W W X){v:az}{m:aB LK.Lk}(hr:LK.Rows X W v m):(∃ L',cW aS (X.setCell ⟨g,i*3+2,aN⟩ v) B (s.dQ i { f with b9:=m }) L'/\L'.vo=L.vo/\L'.vd=L.vd/\L'.ex=L.ex)/\iU aS B (s.dQ i { f with b9:=m }) L X (X.setCell ⟨g,i*3+2,aN⟩ v):=by have hX:=h.bB hB;obtain⟨p,c',rfl,r1,r2,r3,r4⟩:=Xv hr;obtain⟨_,_,x,_,hx,_,_,_,_,_,e1,e2,_⟩:=hX.obj hf;obtain⟨k1,k2⟩:=hX.Ba (y:={ x with p:=p,k:=m.length,c:=c' }) hx hv (j:=2) (v:=ah p m.length c') (by decide) rfl;obtain⟨g1,g2⟩:=hX.cM (f':={ f with b9:=m }) k2 k1 e1 e2 rfl (M3.st r1 fun b off sp e hb=>by have:=r4 b off sp e;have:=(h.Mz hb).2;omega) r2 r3;exact⟨⟨_,g1,rfl,rfl,rfl⟩,⟨_,g1,fun b hb=>.inl hb,rfl⟩,(aR aS X).setCell (p:=⟨g,i*3+2,aN⟩) (hX.objs.lt g (by rw[hv];rfl)).1 _,g2⟩
theorem cW.X5(h:cW aS W B s L){i:aE}{f:Fl}(hf:s.bh[i]?=aO f){g c:aE}(hv:L.vo=ah (aO g) s.bh.length c):iU aS B (s.dQ i oU) L W (((W.setCell ⟨g,i*3,aN⟩ (ai ⟨#[]⟩)).setCell ⟨g,i*3+1,aN⟩ (ai ⟨#[]⟩)).setCell ⟨g,i*3+2,aN⟩ (ah aN 0 0)):=by
 have hi:=(aQ.1 hf).1;obtain⟨_,_,x,_,hx,_,_,_,_,_,e1,e2,e3,e4,e5,e6⟩:=h.obj hf;have kQ:∀ Y,cA (yJ B L) W Y->LK.bI Y x.p f.b9:=fun Y hY=>by obtain⟨x',Ph,_,_,_,hl,_⟩:=(h.data Y hY).b9 i f hf;rw[hx]at Ph;cases Ph;exact hl
 have xu:∀ y:Ov,(L.ov.set i y)[i]?=aO y:=fun y=>jt (by rw[h.num];exact hi)
 have BX:∀ (y z:Ov),((L.ov.set i y).set i z)[i]?=aO z:=fun y z=>jt (by rw[fW,h.num];exact hi)
 obtain⟨k1,k2⟩:=h.Ba (y:={ x with bm:=⟨#[]⟩ }) hx hv (j:=0) (v:=ai ⟨#[]⟩) (by decide) rfl;obtain⟨g1,g2⟩:=h.cM (f':={ f with bm:=⟨#[]⟩ }) k2 k1 rfl e2 e3 kQ (by rw[e3];exact e5) e6;obtain⟨l1,l2⟩:=g1.Ba (y:={ x with bm:=⟨#[]⟩,text:=⟨#[]⟩ }) (xu _) (g:=g) (c:=c) (by rw[hv];simp[Sy.dQ]) (j:=1) (v:=ai ⟨#[]⟩) (by decide) rfl;obtain⟨m1,m2⟩:=g1.cM (f':=⟨⟨#[]⟩,⟨#[]⟩,f.b9⟩) l2 l1 rfl rfl e3 (fun Y hY=>kQ Y ((g2.pw fun b hb=>.inl hb).trans hY)) (by show x.k<=x.c;rw[e3];exact e5) e6;obtain⟨n1,n2⟩:=m1.Ba (y:=⟨⟨#[]⟩,⟨#[]⟩,aN,0,0⟩) (BX _ _) (g:=g) (c:=c) (by rw[hv];simp[Sy.dQ]) (j:=2) (v:=ah aN 0 0) (by decide) rfl;obtain⟨o1,o2⟩:=m1.cM (f':=oU) n2 n1 rfl rfl rfl (fun Y _=>.inl rfl) (aV _) (fun _=>rfl);have he:((s.dQ i { f with bm:=⟨#[]⟩ }).dQ i ⟨⟨#[]⟩,⟨#[]⟩,f.b9⟩).dQ i oU=s.dQ i oU:=by simp[Sy.dQ,List.set_set]
 rw[he]at o1;have hb:=(h.objs.lt g (by rw[hv];rfl)).1;exact⟨⟨_,o1,fun b hb=>.inl hb,rfl⟩,(((aR aS W).setCell (p:=⟨g,i*3,aN⟩) hb _).setCell (p:=⟨g,i*3+1,aN⟩) hb _).setCell (p:=⟨g,i*3+2,aN⟩) hb _,(g2.trans m2).trans o2⟩
end
section
variable {aS:aE}{W:aw}{B:aE}{s:Sy}{L:ja}
theorem T3(h:cW aS W B s L)(cn cm:aF)(cp ct cx:ByteArray)(ca:Bool)(ow k j:aE)(op:qI)(f:Fl)(how:ow<4)(hk:k<8)(hl:s.ia (ow*8+k) j op f)(iL:s.bh.length<1000000)(tI:s.bJ.length<1000000):ay aP 29 #[aj (aO B),ar #[aa ag 13,aa ag ow,aa ag k,aa ag cn,aa ag cm,ai cp,ai ct,ai cx,aq ca]] W (ic aS B (if s.eF ow<0 then s else s.dL (ow*8+(s.eF ow).toNat) (aO j)) (if s.eF ow<0 then km 5 else gz (s.eF ow) ⟨#[]⟩) L W):=by
 have HS:ax (gL aS B s L W ⟨13,ow,k,cn,cm,cp,ct,cx,ca⟩ _):=gL.start h _;have HL:ax (s.ia (ow*8+k) j op f):=hl;generalize hR:ic aS B _ _ L W=R;have HR:ax (_=R):=hR;clear hR h hl;go_enter func29,ntmps29;go_upto_region 0 with fail
 go_cut [3,4]from 3 to 4 (fun s3 s4 w=>s3=aj (aO W)/\s4=aj (aO ⟨↑W+1,0,aN⟩)/\ax (gL aS B s L W ⟨13,ow,k,cn,cm,cp,ct,cx,ca⟩ w))
 case first=>
  go_wp2_with fail;go_meet
  case rel=>exact⟨rfl,rfl,HS.out⟩
 obtain⟨rfl,rfl,HO⟩:=hcut;clear HS;obtain⟨⟨k0,k1,k2,k3,k4,k5,k6,k7,k8⟩,kl⟩:=HO.cells;obtain⟨L1,h1,lj⟩:=HO.ex;obtain⟨g,cd,lN,lg,d0,d1,d2,fz⟩:=h1.desc HL.gX;have c4:=h1.cells.2.2.2.2;rw[lN]at c4;have vB:=h1.fd (k:=ow*8+k) (by omega);rw[mI HL.l6,<- dh 5]at vB;have hj:j<s.bJ.length:=(aQ.1 HL.gX).1;obtain⟨no,hno⟩:∃ n,n=s.bJ.length:=⟨_,rfl⟩
 rw[<- hno]at c4 hj tI;have O6:(j:aF)<(no:aF):=by omega
 have UA:(ow:aF)<4:=by omega
 have He:(k:aF)<8:=by omega
 have g1:decide ((k:aF)<0)=aH:=bD (by omega);have g2:decide (7<(k:aF))=aH:=bD (by omega);have g3:decide ((j:aF)<0)=aH:=bD (by omega);have lz:=fun Y (hY:au wc.heap.size wc Y)=>kN (h1.bB hY) op.cM f HL.hfl iL
 have iy:ax (cW aS wc B s L1/\((∀ b,gV B L1 b->gV B L b\/W.heap.size<=b)/\L1.ex=fun b=>b=W.heap.size+1\/L.ex b)/\L1.vd=ah (aO g) no cd/\no=s.bJ.length):=⟨h1,lj,by rw[hno];exact lN,hno⟩
 have lB:=h1.lt;clear h1 lj lN hno fz;go_wp2_with fail;go_quiet (fail);go_wp2_with fail;go_quiet (fail);go_upto_region 5 with fail
 go_cut [5,6,7]from 21 to 64 (fun s5 s6 s7 w=>s5=aa ag j/\s6=aj (aO ⟨g,j*3,aN⟩)/\s7=ai (s.cQ f)/\ax (au wc wc w))
 case first=>
  go_wp2_with (go_at_call 55;refine(lz _ (below_draws ⟨_,rfl⟩)).mono ?_;rintro r w4 ⟨rfl,eO⟩;have HB:ax (au wc wc w4):=Below.bK (below_draws ⟨_,rfl⟩) eO;clear eO);go_meet
  case rel=>exact⟨rfl,rfl,rfl,HB.out⟩
 obtain⟨rfl,rfl,rfl,HB⟩:=hcut;replace HO:ax (gL aS B s L W ⟨13,ow,k,cn,cm,cp,ct,cx,ca⟩ wc):=HO.pure HB.out;replace iy:ax (cW aS wc B s L1/\((∀ b,gV B L1 b->gV B L b\/W.heap.size<=b)/\L1.ex=fun b=>b=W.heap.size+1\/L.ex b)/\L1.vd=ah (aO g) no cd/\no=s.bJ.length):=⟨iy.1.bB HB.out,iy.2⟩
 clear k0 k1 k2 k3 k4 k5 k6 k7 k8 kl vB c4 d0 d1 d2 lz g1 g2 g3 lB lg HB;obtain⟨⟨k0,k1,k2,k3,k4,k5,k6,k7,k8⟩,kl⟩:=HO.cells;obtain⟨_,_,lN,lg,d0,d1,d2,fz⟩:=iy.1.desc HL.gX;obtain⟨rfl,rfl⟩:g=_/\cd=_:=by rw[iy.2.2.1]at lN;injection lN with e1 e2 e3;injection e1 with e1;injection e1 with e1;exact⟨e1,e3⟩
 clear lN;have lB:=iy.1.lt;have rR:=yu iy.1 ow how;rcases qK s ow with e|⟨m,hm,e,hf⟩
 ·rw[show s.sV ow=8 by unfold Sy.sV;rw[aY (by omega)]]at rR
  go_wp2_with (first|(go_at_call 27;refine(fP _ _).mono ?_;rintro r wb ⟨rfl,fR⟩;have HB:ax _:=HO.pure fR;obtain⟨⟨b0,b1,b2,b3⟩,z0,z1,z2,z3⟩:=cK HB.gz;clear fR)|(go_at_call 54;refine rR.mono ?_;rintro r wf ⟨rfl,rfl⟩));exact ba (v:=ar #[aa ag 5,aa ag 0,ai ⟨#[]⟩,ah aN 0 0]) (by simp[results,results29,go_sem,b0,b1,b2,b3]) rfl (by rw[<- HR.out,aY (by omega),aY (by omega)];exact HB.iT 5 0 ⟨#[]⟩)
 ·rw[show s.sV ow=m by unfold Sy.sV;rw[e,aW (by omega)]]at rR
  have Qt:((m:aF) == 8)=aH:=by simp;omega
  have cm:=iy.1.fd (k:=ow*8+m) (by omega);rw[<- dh 5]at cm;have fm:=iy.1.EW (5+ow*8+m);have hmz:(m:aF)<8:=by omega
  have HP:ax (gL aS B (s.dL (ow*8+m) (aO j)) L W ⟨13,ow,k,cn,_,cp,ct,cx,ca⟩ ((wc.setCell ⟨B,5+ow*8+m,aN⟩ (aa ag j)).drew)):=(HO.step ⟨iy.1,iy.2.1⟩ (by rw[dh 5];exact iy.1.TN (by omega) rfl (fun i e=>by cases e;rw[<- iy.2.2.2];exact hj))).pure (aR _ _).drew;have HE:ax (s.eF ow=m):=e;generalize DT s (ow*8+m)=fi at cm;clear e hf;go_upto_region 46 with(go_at_call 54;refine rR.mono ?_;rintro r wf ⟨rfl,rfl⟩)
  go_cut []from 247 to 255 (fun w=>ax (gL aS B (s.dL (ow*8+m) (aO j)) L W ⟨13,ow,k,cn,_,cp,ct,cx,ca⟩ w))
  case first=>
   go_region;all_goals
    go_wp2_with fail;go_meet
    case rel=>exact HP.out
  obtain⟨⟨b0,b1,b2,b3⟩,z0,z1,z2,z3⟩:=cK hcut.gz;go_wp2_with fail;exact ba (v:=ar #[aa ag 0,aa ag m,ai ⟨#[]⟩,ah aN 0 0]) (by simp[results,results29,go_sem,b0,b1,b2,b3]) rfl (by rw[<- HR.out,HE.out,aW (by omega),aW (by omega)];exact hcut.iT 0 m ⟨#[]⟩)
end
end Go.Proofs.YtjnkfelecopbjaaGreatDoor
namespace Go.Proofs.YtjnkfelecopbjaaGreatDoor.LK
open Go.RowKit Go.Sort KM
theorem zB(x y:Lk)(w:aw):ay aP 102 #[ar #[aa ag x.o, aa ag x.f, aa ag x.t, aq x.a],ar #[aa ag y.o, aa ag y.f, aa ag y.t, aq y.a]] w fun r w'=>r=aK (aq (gq x y))/\Grown w w':=by
 obtain⟨xo,xf,xt,xa⟩:=x;obtain⟨yo,yf,yt,ya⟩:=y;simp only;by_cases h1:xo=yo
 ·go_enter func102,ntmps102
  go_wp2;go_ret;exact⟨df (by simp[KM.gq, *]),((Grown.refl w).alloc _).alloc _⟩
 ·have h1':(xo == yo)=aH:=dw.2 h1
  cases xa<;>cases ya<;>by_cases h3:xf<yt <;>
  (go_enter func102,ntmps102
   go_wp2;go_ret;exact⟨df (by simp[KM.gq, *]<;>omega),((Grown.refl w).alloc _).alloc _⟩)
end Go.Proofs.YtjnkfelecopbjaaGreatDoor.LK
namespace Go.Proofs.YtjnkfelecopbjaaGreatDoor.LK
open Go.RowKit Go.Sort KM
variable{W w wr:aw}
theorem Ra{H:aE}(hH:H=W)(v:az)(T:TypeId):(W.alloc (aM #[v] T)).cell? H=aO v:=by subst hH;simp
theorem Vb(e i:aF)(B:aE)(w:aw)(hB:B<w)(hc:w.cell? B=aO (aa ag i)):ay aP 153 #[aa ag e,aj (aO B)] w fun r w'=>r=aK (ar #[aa ag e,aa ag i])/\au w w w':=by
 have hne:B≠w.heap.size:=by omega
 go_enter func153,ntmps153;go_wp2;refine ba (v:=ar #[aa ag e,aa ag i]) (by simp[results,results153,go_sem]) rfl ?_;exact⟨rfl,((Grown.refl w).alloc _).below⟩
def WL(x:Lk):Prop:=(¬ rH x/\(x.o<0\/(¬ x.o<0/\(3<x.o\/(¬ 3<x.o/\(x.f<0\/(¬ x.f<0/\(1000<x.t\/(¬ 1000<x.t/\x.t<=x.f)))))))))\/(rH x/\¬ x.o<0/\¬ 3<x.o/\¬ x.f<0/\¬ 1000<x.t/\¬ x.t<=x.f)
theorem acV(x:Lk):WL x:=by unfold WL rH;omega
structure zZ (k:aF) (y:Lk) (w wr W:aw):Prop where
 below:au (w.heap.size+1) (w.alloc (aM #[aa ag 0,aa ag 0] 56)) W
 ci:W.cell? wr=aO (aa ag k)
 y0:W.cell? ⟨↑wr+1,0,aN⟩=aO (aa ag y.o)
 y1:W.cell? ⟨↑wr+1,1,aN⟩=aO (aa ag y.f)
 y2:W.cell? ⟨↑wr+1,2,aN⟩=aO (aa ag y.t)
 y3:W.cell? ⟨↑wr+1,3,aN⟩=aO (aq y.a)
 size:wr.heap.size+2<=W.heap.size
theorem zZ.start(k:aF)(y:Lk)(h:au (w.heap.size+1) (w.alloc (aM #[aa ag 0,aa ag 0] 56)) wr):zZ k y w wr ((wr.alloc (aM #[aa ag k] 3)).alloc (aM #[aa ag y.o, aa ag y.f, aa ag y.t, aq y.a] 117)):=by
 have e:wr.heap.size+1=(wr.alloc (aM #[aa ag k] 3)).heap.size:=by simp
 have h4:=(S0 (X:=wr.alloc (aM #[aa ag k] 3)) (t:=117) (a:=aa ag y.o) (b:=aa ag y.f) (c:=aa ag y.t) (d:=aq y.a) e (aR _ _)).1;exact⟨NR (NR h),bj _ (Ra rfl _ _),h4.1,h4.2.1,h4.2.2.1,h4.2.2.2,by simp⟩
theorem zZ.bB{k:aF}{y:Lk}{W':aw}(h:zZ k y w wr W)(hN:au W W W'):zZ k y w wr W':=by have hs:=h.size;have hz:=hN.size;exact⟨oC h.below hN,(hN.cell (p:=wr) (by show wr.heap.size<_;omega)).trans h.ci,(hN.cell (p:=⟨↑wr+1,0,aN⟩) (by show wr.heap.size+1<_;omega)).trans h.y0,(hN.cell (p:=⟨↑wr+1,1,aN⟩) (by show wr.heap.size+1<_;omega)).trans h.y1,(hN.cell (p:=⟨↑wr+1,2,aN⟩) (by show wr.heap.size+1<_;omega)).trans h.y2,(hN.cell (p:=⟨↑wr+1,3,aN⟩) (by show wr.heap.size+1<_;omega)).trans h.y3,by omega⟩
theorem zZ.bad{k:aF}{y:Lk}(h:zZ k y w wr W)(e:aF):ay aP 153 #[aa ag e,aj (aO wr)] W fun r w'=>r=aK (ar #[aa ag e,aa ag k])/\au (w.heap.size+1) (w.alloc (aM #[aa ag 0,aa ag 0] 56)) w':=by refine(Vb e k wr W (by have:=h.size;omega) h.ci).mono ?_;rintro r w' ⟨rfl,hN⟩;exact⟨rfl,oC h.below hN⟩
theorem ai2(z y:Lk):(xy z y=aH/\(y.o<z.o\/(¬ y.o<z.o/\(z.o == y.o)=aI/\(y.f<z.t\/(¬ y.f<z.t/\(y.f == z.t)=aI/\(y.a == z.a)=aI)))))\/(xy z y=aI/\¬ y.o<z.o/\((z.o == y.o)=aH\/((z.o == y.o)=aI/\¬ y.f<z.t/\((y.f == z.t)=aH\/((y.f == z.t)=aI/\(y.a == z.a)=aH))))):=by have h:=wa z y;unfold R at h;simp only[Vc,dw];cases hr:xy z y<;>simp[hr]at h ⊢<;>grind
theorem GG(l:aB Lk)(p:aC aJ)(cap:aE)(w:aw)(hL:bI w p l)(KQ:l.length<=40)(ir:l.length<=cap):ay aP 101 #[ah p l.length cap] w (mX l w):=by
 have HF:ax (eA l=kz (l.take 0) (l.drop 0)):=by show _=_;rw[eA,aW (by omega)];rfl
 have HL:ax (bI w p l):=hL;obtain⟨n,eK⟩:=ee l.length
 have HN:ax (n=l.length):=eK;rw[<- eK]at KQ ir ⊢;clear eK hL;have hz:¬ (40:aF)<(n:aF):=by omega
 go_enter func101,ntmps101;go_wp2;go_loopg [15] n (fun gg s15 wr=>∃ k:aE,k<=n/\n-k<=gg/\s15=aa ag k/\ax (au (w.heap.size+1) (w.alloc (aM #[aa ag 0,aa ag 0] 56)) wr)/\ax (eA l=kz (l.take k) (l.drop k)))
 case atStart=>exact⟨0,bF _,by omega,rfl,aR _ _,HF.out⟩
 case round=>
  obtain⟨k,hk,hg,rfl,BW,HE⟩:=hrel;by_cases gm:k<n
  ·have eN:(k:aF)<(n:aF):=by omega
   obtain⟨y,hy⟩:∃ y,l[k]?=aO y:=⟨_,aU (by have:=HN.out;omega)⟩
   have HS:ax (eA l=if kq (l.take k) y=0 then kz (l.take (k+1)) (l.drop (k+1))else(kq (l.take k) y,(k:aF))):=by show _=_;rw[HE.out,CO hy]
   have HWB:ax (kq (l.take k) y=if ¬ rH y then 3 else if kC (l.take k) y=aI then 2 else if(l.take k).any (gq y)then 8 else 0):=rfl;have pJ:=eX BW.out;rcases HL.out with h0|⟨b,off,rfl,hb,hc⟩
   ·rw[h0]at hy;simp at hy
   obtain⟨c0,c1,c2,c3⟩:=bI.cells hc hb pJ hy;have ot:b<wr.heap.size:=aZ hb pJ.size;have hne:b≠wr.heap.size:=by omega
   have abN:b≠wr.heap.size+1:=by omega
   have I:=zZ.start (k:aF) y BW.out;have HC:ax (∀ j e,l[j]?=aO e->∀ i v,(jY e)[i]?=aO v->w.cell? ⟨b,off+j*4+i,aN⟩=aO v):=hc;clear hc hy;obtain⟨W1,rfl⟩:=ee wr
   rcases acV y with⟨lH,h⟩|⟨lH,h1,h2,h3,h4,h5⟩
   ·have HW:ax (eA l=(3,(k:aF))):=by show _=_;rw[HS.out,HWB.out,aY lH];rfl
    clear lH HWB HS;rcases h with h1|⟨h1,h2|⟨h2,h3|⟨h3,h4|⟨h4,h5⟩⟩⟩⟩ <;>
    (go_wp2_with ((first|go_at_call 153|go_at_fn 153);refine(I.bad 3).mono ?_;rintro r w2 ⟨rfl,hO⟩;obtain⟨⟨r0,r1⟩,⟨f0,f1⟩⟩:=nw (bC _) hO;have HO:ax (au w w w2):=eX hO;clear hO)
     refine ba (v:=ar #[aa ag 3,aa ag k]) (by simp[results,results101,go_sem,r0,r1]) rfl ?_;exact⟨by rw[HW.out],ny HO.out (aV _) _ _⟩)
   ·have HW:ax (kq (l.take k) y=if kC (l.take k) y=aI then 2 else if(l.take k).any (gq y)then 8 else 0):=by show _=_;rw[HWB.out,aW (by simpa using lH)]
    clear lH HWB;have hkc:k<=cap:=by omega
    have ak2:(k:aF)<=(cap:aF):=by omega
    have HI:ax (zZ (k:aF) y w W1 ((W1.alloc (aM #[aa ag (k:aF)] 3)).alloc (aM #[aa ag y.o, aa ag y.f, aa ag y.t, aq y.a] 117))):=I;clear I;go_upto_if 49 with fail
    go_cut []from 48 to 89 (fun w'=>ax (zZ (k:aF) y w W1 w')/\ax (kC (l.take k) y=aH))
    case first=>
     by_cases A1:k=0
     ·have afS:¬ (0:aF)<(k:aF):=by omega
      have FI:ax (kC (l.take k) y=aH):=by show _=_;rw[A1];simp[kC]
      clear A1;go_wp2;go_meet
      case rel=>exact⟨HI.out,FI.out⟩
     have afS:(0:aF)<(k:aF):=by omega
     obtain⟨j,hj⟩:∃ j,k=j+1:=⟨k-1,by omega⟩
     obtain⟨z,Xl⟩:∃ z,l[j]?=aO z:=⟨_,aU (by have:=HN.out;omega)⟩
     obtain⟨z0,z1,z2,z3⟩:=bI.cells HC.out hb pJ Xl;have HLB:ax (kC (l.take k) y = !xy z y):=by show _=_;rw[hj,kC,Gp (l:=l.take (j+1)) (k:=j) (y:=z) (by rw[bL];have:=HN.out;omega) (by rw[dm,aY (by omega)];exact Xl)]
     have Nt:(k:aF)-1=(j:aF):=by omega
     have Ej:IntKind.i64.wrap ((k:aF)-1)=(j:aF):=by simp[IntKind.wrap,IntKind.bits,IntKind.signed];omega
     have Cn:(0:aF)<=(j:aF):=by omega
     have C5:(j:aF)<(n:aF):=by omega
     have GZ:ax (zZ (k:aF) y w W1 (((W1.alloc (aM #[aa ag (k:aF)] 3)).alloc (aM #[aa ag y.o, aa ag y.f, aa ag y.t, aq y.a] 117)).alloc (aM #[aa ag z.o, aa ag z.f, aa ag z.t, aq z.a] 117))):=HI.bB ((Grown.refl _).alloc _).below;clear HI Xl hj A1;rcases ai2 z y with⟨hr,h⟩|⟨hr,q1,h⟩
     ·have M1:ax (eA l=(2,(k:aF))):=by show _=_;rw[HS.out,show kq (l.take k) y=2 by rw[HW.out,aY (by rw[HLB.out,hr];rfl)]];rfl
      clear hr;rcases h with q1|⟨q1,q2,q3|⟨q3,q4,q5⟩⟩ <;>
      (go_wp2_with ((first|go_at_call 153|go_at_fn 153);refine(GZ.bad 2).mono ?_;rintro r w4 ⟨rfl,hO⟩;obtain⟨⟨r0,r1⟩,⟨f0,f1⟩⟩:=nw (bC _) hO;have HO:ax (au w w w4):=eX hO;clear hO)
       refine ba (v:=ar #[aa ag 2,aa ag k]) (by simp[results,results101,go_sem,r0,r1]) rfl ?_;exact⟨by rw[M1.out],ny HO.out (aV _) _ _⟩)
     ·have FI:ax (kC (l.take k) y=aH):=by show _=_;rw[HLB.out,hr];rfl
      clear hr;rcases h with q2|⟨q2,q3,q4|⟨q4,q5⟩⟩ <;>
      (go_wp2
       go_meet
       case rel=>exact⟨GZ.out,FI.out⟩)
    case rest=>
     obtain⟨GZ,FI⟩:=hcut;clear HI;have hIz:=GZ.size;have hci:=GZ.ci;go_wp2;go_loopg [94] k (fun gg s94 wr2=>∃ i:aE,i<=k/\k-i<=gg/\s94=aa ag i/\ax (zZ (k:aF) y w W1 wr2)/\ax (∀ x∈l.take i,gq y x=aH))
     case atStart=>exact⟨0,by omega,by omega,rfl,GZ.out,by intro x hx;simp at hx⟩
     case round=>
      obtain⟨i,hi,uI,rfl,J,HA⟩:=hrel;have WT:=J.size;by_cases O5:i<k
      ·have afO:(i:aF)<(k:aF):=by omega
       obtain⟨u,hu⟩:∃ u,l[i]?=aO u:=⟨_,aU (by have:=HN.out;omega)⟩
       obtain⟨u0,u1,u2,u3⟩:=bI.cells HC.out hb (eX J.below) hu;have HU:ax (l[i]?=aO u):=hu;have Vw:b<wr.heap.size:=by omega
       have Hc:b≠wr.heap.size:=by omega
       have hyl:W1.heap.size+1<wr.heap.size:=by omega
       obtain⟨s0,s1,s2,s3⟩:_/\_/\_/\_:=⟨J.y0,J.y1,J.y2,J.y3⟩
       have hX:au wr wr (wr.alloc (aM #[aa ag u.o, aa ag u.f, aa ag u.t, aq u.a] 117)):=((Grown.refl wr).alloc _).below;have pj:=fun W=>zB y u W
       obtain⟨cu,oF⟩:=o7 (gq y u)
       rw[oF]at pj;have UO:ax (gq y u=cu):=oF;clear hu oF;go_wp2_with (first
        | (go_at_call 102;refine(pj _).mono ?_;clear pj;rintro r w3 ⟨rfl,hG⟩;have HJ3:ax (zZ (k:aF) y w W1 w3):=J.bB (Below.bK hX hG.below);clear hG;cases cu)
        | ((first|go_at_call 153|go_at_fn 153);refine(HJ3.bad 8).mono ?_;rintro r w4 ⟨rfl,hO⟩;obtain⟨⟨r0,r1⟩,⟨f0,f1⟩⟩:=nw (bC _) hO;have HO:ax (au w w w4):=eX hO;clear hO))
       ·go_roundg (k-(i+1))
        case measure=>omega
        case rel=>exact⟨i+1,by omega,by omega,by go_num,HJ3.out,rM HU.out UO.out HA.out⟩
       ·refine ba (v:=ar #[aa ag 8,aa ag k]) (by simp[results,results101,go_sem,r0,r1]) rfl ?_
        refine⟨?_,ny HO.out (aV _) _ _⟩;rw[HS.out,show kq (l.take k) y=8 by rw[HW.out,aW (by rw[FI.out];simp),aY (dy.2 ⟨u,bw (by rw[dm,aY O5];exact HU.out),UO.out⟩)]];rfl
      ·have afO:¬ (i:aF)<(k:aF):=by omega
       have H0:ax (eA l=kz (l.take (k+1)) (l.drop (k+1))):=by show _=_;rw[HS.out,aY];rw[HW.out,aW (by rw[FI.out];simp),aW];rw[fY,ks];intro x hx;rw[fY];exact HA.out x (by rw[show i=k by omega];exact hx)
       go_wp2;go_roundg (n-(k+1))
       case measure=>omega
       case rel=>exact⟨k+1,by omega,by omega,by go_num,J.below,H0.out⟩
  ·have eN:¬ (k:aF)<(n:aF):=by omega
   have HZ:ax (eA l=(0,0)):=by show _=_;rw[HE.out,EO (by have:=HN.out;omega)]
   obtain⟨⟨r0,r1⟩,⟨f0,f1⟩⟩:=nw (bC _) BW.out;have HO:ax (au w w wr):=eX BW.out;go_wp2;refine ba (v:=ar #[aa ag 0,aa ag 0]) (by simp[results,results101,go_sem,r0,r1]) rfl ?_;exact⟨by rw[HZ.out],ny HO.out (aV _) _ _⟩
theorem jh(l:aB Lk)(p:aC aJ)(cap:aE)(w:aw)(hL:bI w p l)(hn:l.length<4611686018427387904)(ir:l.length<=cap):ay aP 101 #[ah p l.length cap] w (mX l w):=by
 by_cases KQ:l.length<=40
 ·exact GG l p cap w hL KQ ir
 ·have HF:ax (eA l=(5,0)):=by show _=_;rw[eA,aY (by omega)]
  obtain⟨n,eK⟩:=ee l.length
  rw[<- eK]at KQ ir hn ⊢;clear eK hL;have hz:(40:aF)<(n:aF):=by omega
  go_enter func101,ntmps101;go_wp2;refine ba (v:=ar #[aa ag 5,aa ag 0]) (by simp[results,results101,go_sem]) rfl ?_;exact⟨by rw[HF.out],((Grown.refl w).alloc _).below⟩
end Go.Proofs.YtjnkfelecopbjaaGreatDoor.LK
namespace Go.Proofs.YtjnkfelecopbjaaGreatDoor.LK
open Go.RowKit Go.Sort KM
structure U7 (l:aB Lk) (x:Lk) (p:aC aJ) (n cap:aE) (w:aw):Prop where
 wr1:∀ W,au w w W->ay aP 101 #[ah p n cap] W (mX l W)
 wr2:∀ (W:aw) (H:aE),H=W->ay aP 101 #[ah (aO H) 1 1] (W.alloc (aM #[aa ag x.o, aa ag x.f, aa ag x.t, aq x.a] 117)) fun e w'=>e=aK (ar #[aa ag (eA [x]).1,aa ag (eA [x]).2])/\au W W w'
theorem agL(l:aB Lk)(x:Lk)(p:aC aJ)(cap:aE)(w:aw)(hL:bI w p l)(hn:l.length<4611686018427387904)(ir:l.length<=cap):U7 l x p l.length cap w:=
 ⟨fun W hB=>jh l p cap W (hL.bB hB) hn ir,fun W H hH=>by
  refine(jh [x] (aO ⟨H,0,aN⟩) 1 _ (.inr ⟨H,0,rfl,by rw[hH];simp,fun j e he i v hv=>?_⟩) (by show 1<_;decide) (by show 1<=1;decide)).mono ?_
  ·cases j with
   | zero=>
    obtain rfl:x=e:=by simpa using he
    have:=lK W x H hH i v hv;rw[dG]at this;simpa using this
   | succ j=>simp at he
  ·rintro e w' ⟨rfl,hB⟩
   exact⟨rfl,((Grown.refl W).alloc _).below.trans (hB.mono (by simp))⟩⟩
theorem Mb{l:aB Lk}{x:Lk}(h:¬ (eA l).1=0):jq l x=(eA l).1:=by unfold jq;rw[aW h]
theorem Dv{l:aB Lk}{x:Lk}(h:(eA l).1=0):jq l x=(eA [x]).1:=by unfold jq;rw[aY h,EP];split<;>rfl
theorem acQ(free:Bool)(l:aB Lk)(x:Lk)(how:aF)(p:aC aJ)(n cap:aE)(w:aw)(hC:U7 l x p n cap w)(h1:¬ (eA l).1=0):ay aP 56 #[ah p n cap,ar #[aa ag x.o, aa ag x.f, aa ag x.t, aq x.a],aa ag how] w (mA free l x w):=by have HP:ax (jq l x=(eA l).1):=Mb h1;have qM:=hC.wr1;unfold mX at qM;generalize (eA l).1=f1 at *;clear hC;have I:au (w.heap.size+1) (w.alloc (aM #[aa ag x.o, aa ag x.f, aa ag x.t, aq x.a] 117)) (w.alloc (aM #[aa ag x.o, aa ag x.f, aa ag x.t, aq x.a] 117)):=aR _ _;have Gc:=Ch;go_enter func56,ntmps56;go_wp2_with (go_at_call 101;refine(qM _ (eX I)).mono ?_;clear qM;rintro e w3 ⟨rfl,hN⟩;replace I:=oC I hN;clear hN);go_quiet (fail);go_wp2;go_ret2;exact⟨ah aN 0 0,f1,[],rfl,Rows.nil _ _,.inl ⟨by rw[HP.out];exact h1,HP.symm,rfl⟩,cG (eX (NR I)) _⟩
theorem acR(free:Bool)(l:aB Lk)(x:Lk)(how:aF)(p:aC aJ)(n cap:aE)(w:aw)(hC:U7 l x p n cap w)(h1:(eA l).1=0)(h2:¬ (eA [x]).1=0):ay aP 56 #[ah p n cap,ar #[aa ag x.o, aa ag x.f, aa ag x.t, aq x.a],aa ag how] w (mA free l x w):=by
 have HP:ax (jq l x=(eA [x]).1):=Dv h1;have qM:=hC.wr1;have xw:=hC.wr2;unfold mX at qM;rw[h1]at qM;generalize (eA [x]).1=f2 at *;generalize (eA [x]).2=f2' at *;generalize (eA l).2=X6 at *;clear hC h1;have I:au (w.heap.size+1) (w.alloc (aM #[aa ag x.o, aa ag x.f, aa ag x.t, aq x.a] 117)) (w.alloc (aM #[aa ag x.o, aa ag x.f, aa ag x.t, aq x.a] 117)):=aR _ _;have Gc:=Ch;go_enter func56,ntmps56;go_wp2_with (first
  | (go_at_call 101;refine(qM _ (eX I)).mono ?_;clear qM;rintro e w3 ⟨rfl,hN⟩;replace I:=NR (o2:=.cells #[aa ag 0,aa ag X6] 56) (oC I hN);clear hN;obtain⟨⟨q0,q1,q2,q3⟩,_⟩:=iv (bC _) I)
  | (go_at_call 101;refine(xw _ (w3.heap.size+1) (by simp)).mono ?_;clear xw;rintro e w4 ⟨rfl,hN⟩;replace I:=oC I hN;clear hN))
 go_quiet (fail);go_wp2;go_ret2;exact⟨ah aN 0 0,f2,[],rfl,Rows.nil _ _,.inl ⟨by rw[HP.out];exact h2,HP.symm,rfl⟩,cG (eX (NR I)) _⟩
end Go.Proofs.YtjnkfelecopbjaaGreatDoor.LK
namespace Go.Proofs.YtjnkfelecopbjaaGreatDoor.LK.KM
structure sB (o:aF) (F:aE->aF) (k:aE) (out:aB Lk):Prop where
 own:∀ x∈out,x.o=o
 ok:∀ x∈out,0<=x.f/\x.f<x.t/\x.t<=k
 rises:out.Pairwise R
 has:∀ (i:aE) b,Has out o i b↔i<k/\F i=qz b
 last:∀ x∈out,x.t=k->∀ i:aE,(i:aF)+1=x.t->F i=qz x.a
theorem TF(o:aF)(F:aE->aF):sB o F 0 []:=
 ⟨by simp,by simp,by simp,fun i b=>⟨fun⟨y,hy,_⟩=>by simp at hy,fun h=>by omega⟩,by simp⟩
theorem Fq{o:aF}{F:aE->aF}{k e:aE}{out:aB Lk}(h:sB o F k out)(YK:k<e)(hall:∀ i,k<=i->i<e->F i=F k)(hF:F k=0\/F k=1\/F k=2)(ab8:0<k->F (k-1)≠F k):sB o F e (if 0<F k then out++[⟨o,k,e,decide (F k=2)⟩]else out):=by
 by_cases hp:0<F k
 ·rw[aY hp]
  have hb:qz (decide (F k=2))=F k:=by rcases hF with h0|h0|h0<;>rw[h0]at hp ⊢<;>simp[qz]at hp ⊢
  refine⟨?_,?_,?_,?_,?_⟩
  ·intro x hx
   rcases bZ.1 hx with hx|hx
   ·exact h.own x hx
   ·simp at hx;rw[hx]
  ·intro x hx
   rcases bZ.1 hx with hx|hx
   ·obtain⟨a,b,c⟩:=h.ok x hx;exact⟨a,b,by omega⟩
   ·simp at hx;rw[hx];simp only;omega
  ·refine dA.2 ⟨h.rises,by simp,fun a ha b ot=>?_⟩
   simp at ot;subst ot;obtain⟨a1,a2,a3⟩:=h.ok a ha;refine .inr ⟨h.own a ha,?_⟩;simp only;by_cases he:a.t=k
   ·refine .inr ⟨he,fun e'=>?_⟩
    have A1:0<k:=by omega
    have:=h.last a ha he (k-1) (by omega);rw[e',hb]at this;exact ab8 A1 this
   ·exact .inl (by omega)
  ·intro i b
   rw[lM,h.has,ze];simp only;constructor
   ·rintro(⟨h1,h2⟩|⟨_,h1,h2,h3⟩)
    ·exact⟨by omega,h2⟩
    ·refine⟨by omega,?_⟩
     rw[hall i (by omega) (by omega),<- hb,h3]
   ·rintro⟨h1,h2⟩
    by_cases hi:i<k
    ·exact .inl ⟨hi,h2⟩
    ·refine .inr ⟨trivial,by omega,by omega,?_⟩
     rw[hall i (by omega) h1,<- hb]at h2;revert h2;cases decide (F k=2)<;>cases b<;>simp[qz]
  ·intro x hx ht i hi
   rcases bZ.1 hx with hx|hx
   ·obtain⟨_,_,a3⟩:=h.ok x hx;omega
   ·simp at hx;rw[hx]at hi ⊢;simp only at hi ⊢
    rw[hb];exact hall i (by omega) (by omega)
 ·rw[aW hp]
  have h0:F k=0:=by omega
  refine⟨h.own,fun x hx=>?_,h.rises,fun i b=>?_,fun x hx ht i hi=>?_⟩
  ·obtain⟨a,b,c⟩:=h.ok x hx;exact⟨a,b,by omega⟩
  ·rw[h.has]
   constructor
   ·rintro⟨h1,h2⟩;exact⟨by omega,h2⟩
   ·rintro⟨h1,h2⟩
    by_cases hi:i<k
    ·exact⟨hi,h2⟩
    ·rw[hall i (by omega) h1,h0]at h2
     cases b<;>simp[qz]at h2
  ·obtain⟨_,_,a3⟩:=h.ok x hx;omega
end Go.Proofs.YtjnkfelecopbjaaGreatDoor.LK.KM
namespace Go.Proofs.YtjnkfelecopbjaaGreatDoor.LK.KM
def jn(o:aF)(F:aE->aF):aB Lk->aE->aF
 | [],k=>F k
 | x::r,k=>jn o (fun j=>if x.o=o/\x.f<=j/\(j:aF)<x.t then qz x.a else F j) r k
theorem Ia(o:aF)(l:aB Lk)(x:Lk):∀ F k,jn o F (l++[x]) k=if x.o=o/\x.f<=k/\(k:aF)<x.t then qz x.a else jn o F l k:=by
 induction l with
 | nil=>intro F k;simp[jn]
 | cons y r ih=>intro F k;rw[fF,jn,ih];rfl
theorem yS(o:aF)(k:aE)(l:aB Lk):∀ F,(∃ y∈l,y.o=o/\y.f<=k/\(k:aF)<y.t/\jn o F l k=qz y.a)\/((∀ y∈l,¬ (y.o=o/\y.f<=k/\(k:aF)<y.t))/\jn o F l k=F k):=by
 induction l with
 | nil=>intro F;exact .inr ⟨by simp,rfl⟩
 | cons x r ih=>
  intro F;rcases ih (fun j=>if x.o=o/\x.f<=j/\(j:aF)<x.t then qz x.a else F j)with⟨y,hy,h1,h2,h3,h4⟩|⟨h1,h2⟩
  ·exact .inl ⟨y,by simp[hy],h1,h2,h3,h4⟩
  ·by_cases hx:x.o=o/\x.f<=k/\(k:aF)<x.t
   ·exact .inl ⟨x,by simp,hx.1,hx.2.1,hx.2.2,by rw[jn,h2,aY hx]⟩
   ·refine .inr ⟨fun y hy=>?_,by rw[jn,h2,aW hx]⟩
    rcases cX.1 hy with rfl|hy
    ·exact hx
    ·exact h1 y hy
theorem IM{a b:Bool}(h:qz a=qz b):a=b:=by cases a<;>cases b<;>simp[qz]at h ⊢
theorem C9(a:Bool):0<qz a:=by cases a<;>simp[qz]
theorem Od{l:aB Lk}(h:jl l)(o:aF)(k:aE)(b:Bool):jn o (fun _=>0) l k=qz b↔Has l o k b:=by
 rcases yS o k l (fun _=>0)with⟨y,hy,h1,h2,h3,h4⟩|⟨h1,h2⟩
 ·rw[h4]
  constructor
  ·intro e
   exact⟨y,hy,h1,h2,h3,IM e⟩
  ·intro e
   rw[KW h ⟨y,hy,h1,h2,h3,rfl⟩ e]
 ·rw[h2]
  constructor
  ·intro e
   have:=C9 b;omega
  ·rintro⟨y,hy,a1,a2,a3,_⟩
   exact aG ⟨a1,a2,a3⟩ (h1 y hy)
theorem Ib(o:aF)(k:aE)(l:aB Lk):jn o (fun _=>0) l k=0\/jn o (fun _=>0) l k=1\/jn o (fun _=>0) l k=2:=by
 rcases yS o k l (fun _=>0)with⟨y,hy,h1,h2,h3,h4⟩|⟨h1,h2⟩
 ·rw[h4];cases y.a<;>simp[qz]
 ·exact .inl h2
def dQ(l:aB Lk)(x:Lk)(how o:aF)(k:aE):aF:=if o=x.o/\x.f<=k/\(k:aF)<x.t then how else jn o (fun _=>0) l k
theorem Mt(l:aB Lk)(x:Lk)(how o:aF)(k:aE)(h:how=0\/how=1\/how=2):dQ l x how o k=0\/dQ l x how o k=1\/dQ l x how o k=2:=by
 unfold dQ;split
 ·exact h
 ·exact Ib o k l
structure zY (Fs:aF->aE->aF) (o:aE) (out:aB Lk):Prop where
 ok:∀ x∈out,0<=x.o/\x.o<o/\0<=x.f/\x.f<x.t/\x.t<=1000
 rises:out.Pairwise R
 has:∀ o' (i:aE) b,Has out o' i b↔0<=o'/\o'<o/\i<1000/\Fs o' i=qz b
 len:out.length<=o*1000
theorem Mp(Fs:aF->aE->aF):zY Fs 0 []:=
 ⟨by simp,by simp,fun o' i b=>⟨fun⟨y,hy,_⟩=>by simp at hy,fun h=>by omega⟩,by simp⟩
theorem JF{Fs:aF->aE->aF}{o:aE}{out r:aB Lk}(h:zY Fs o out)(hr:sB (o:aF) (Fs (o:aF)) 1000 r)(hl:r.length<=1000):zY Fs (o+1) (out++r):=by
 refine⟨fun x hx=>?_,?_,fun o' i b=>?_,?_⟩
 ·rcases bZ.1 hx with hx|hx
  ·obtain⟨a,b,c⟩:=h.ok x hx;exact⟨a,by omega,c⟩
  ·have:=hr.own x hx
   obtain⟨a,b,c⟩:=hr.ok x hx;exact⟨by omega,by omega,a,b,by omega⟩
 ·refine dA.2 ⟨h.rises,hr.rises,fun a ha b hb=>?_⟩
  have h1:=(h.ok a ha).2.1;have h2:=hr.own b hb;exact .inl (by omega)
 ·rw[lM,h.has]
  constructor
  ·rintro(⟨h1,h2,h3⟩|hh)
   ·exact⟨h1,by omega,h3⟩
   ·have e:o'=o:=by
     obtain⟨y,hy,e,_⟩:=hh;rw[<- e];exact hr.own y hy
    subst e;obtain⟨a,b'⟩:=(hr.has i b).1 hh;exact⟨by omega,by omega,a,b'⟩
  ·rintro⟨h1,h2,h3,h4⟩
   by_cases e:o'=o
   ·subst e
    exact .inr ((hr.has i b).2 ⟨h3,h4⟩)
   ·exact .inl ⟨h1,by omega,h3,h4⟩
 ·rw[cJ]
  have:=h.len;omega
theorem Gt{free:Bool}{l m:aB Lk}{x:Lk}(h:jl l)(hx:rH x)(hm:free=aI\/l.any (gq x)=aH)(hs:nO free l x m):FO m:=by
 cases free with
 | true=>
  intro o o' k b b' hne h1 h2;rcases(hs _ _ _).1 h1 with⟨h1,_⟩|⟨h1,_⟩
  ·rcases(hs _ _ _).1 h2 with⟨h2,_⟩|⟨h2,_⟩
   ·exact h.no o o' k b b' hne h1 h2
   ·cases h2
  ·cases h1
 | false=>
  have hm:l.any (gq x)=aH:=by
   rcases hm with hm|hm
   ·cases hm
   ·exact hm
  have Us:∀ y∈l,gq x y=aH:=fun y hy=>by have:=ks.1 hm y hy;simpa using this
  have IK:∀ o k b,o≠x.o->Has l o k b->x.f<=k->k<x.t->b=aH/\x.a=aH:=by
   rintro o k b hne ⟨y,hy,rfl,h1,h2,rfl⟩ h3 h4;have hc:=Us y hy;rw[<- fY,wE hx (h.ok y hy)]at hc;by_cases ha:x.a=aI\/y.a=aI
   ·exact aG ⟨fun e=>hne e.symm,ha,k,h3,h4,h1,h2⟩ hc
   ·simp only[not_or,fY]at ha;exact⟨ha.2,ha.1⟩
  intro o o' k b b' hne h1 h2;rcases(hs _ _ _).1 h1 with⟨h1,_⟩|⟨_,h1,h3,h4,h5⟩<;>rcases(hs _ _ _).1 h2 with⟨h2,_⟩|⟨_,h2,h6,h7,h8⟩
  ·exact h.no o o' k b b' hne h1 h2
  ·have:=IK o k b (by omega) h1 h6 h7;exact⟨this.1,by rw[<- h8];exact this.2⟩
  ·have:=IK o' k b' (by omega) h2 h3 h4;exact⟨by rw[<- h5];exact this.2,this.1⟩
  ·omega
def uK(free:Bool)(x:Lk):aF:=if free then 0 else qz x.a
theorem IP(free:Bool)(x:Lk):uK free x=0\/uK free x=1\/uK free x=2:=by unfold uK qz;cases free<;>cases x.a<;>simp
theorem P2{free:Bool}{l m:aB Lk}{x:Lk}(h:jl l)(hx:rH x)(hm:free=aI\/l.any (gq x)=aH)(hr:zY (dQ l x (uK free x)) 4 m):jl m/\nO free l x m:=by
 have lH:∀ y∈m,rH y:=fun y hy=>by obtain⟨a,b,c,d,e⟩:=hr.ok y hy;exact⟨a,by omega,c,d,e⟩
 have mq:∀ {l:aB Lk},(∀ y∈l,rH y)->∀ {o k b},Has l o k b->0<=o/\o<4/\0<=k/\k<1000:=by rintro l hl o k b ⟨y,hy,rfl,h1,h2,_⟩;obtain⟨a,b,c,d,e⟩:=hl y hy;exact⟨a,b,by omega,by omega⟩
 have hs:nO free l x m:=by
  intro o k b;have key:∀ i:aE,k=(i:aF)->(dQ l x (uK free x) o i=qz b↔(Has l o k b/\¬ (o=x.o/\x.f<=k/\k<x.t))\/(free=aH/\x.o=o/\x.f<=k/\k<x.t/\x.a=b)):=by
   rintro i rfl;unfold dQ;by_cases hi:o=x.o/\x.f<=(i:aF)/\(i:aF)<x.t
   ·rw[aY hi]
    constructor
    ·intro e
     cases free with
     | true=>have:=C9 b;simp[uK]at e;omega
     | false=>exact .inr ⟨rfl,hi.1.symm,hi.2.1,hi.2.2,IM e⟩
    ·rintro(⟨_,hn⟩|⟨rfl,_,_,_,rfl⟩)
     ·exact aG hi hn
     ·rfl
   ·rw[aW hi,Od h]
    constructor
    ·exact fun hh=>.inl ⟨hh,hi⟩
    ·rintro(⟨hh,_⟩|⟨_,h1,h2,h3,_⟩)
     ·exact hh
     ·exact aG ⟨h1.symm,h2,h3⟩ hi
  constructor
  ·intro hh
   obtain⟨a,b',c,d⟩:=mq lH hh;obtain⟨i,rfl⟩:=kr c;exact(key i rfl).1 ((hr.has o i b).1 hh).2.2.2
  ·intro hh
   have hb:0<=o/\o<4/\0<=k/\k<1000:=by
    rcases hh with⟨hh,_⟩|⟨_,rfl,h2,h3,_⟩
    ·exact mq h.ok hh
    ·obtain⟨a,b',c,d,e⟩:=hx;exact⟨a,b',by omega,by omega⟩
   obtain⟨i,rfl⟩:=kr hb.2.2.1;exact(hr.has o i b).2 ⟨hb.1,by omega,by omega,(key i rfl).2 hh⟩
 exact⟨⟨lH,hr.rises,Gt h hx hm hs⟩,hs⟩
end Go.Proofs.YtjnkfelecopbjaaGreatDoor.LK.KM
namespace Go.Proofs.YtjnkfelecopbjaaGreatDoor.LK
open Go.RowKit Go.Sort KM
variable{F:aE->aF}{g k kf kt:aE}{w:aw}{ya:Bool}{yo:aF}
def Ints(w:aw)(g:aE)(F:aE->aF):Prop:=∃ eI:Array az,w.heap[g]?=aO (aM eI 3 (0,0))/\eI.size=1001/\∀ k,k<1001->eI[k]?=aO (aa ag (F k))
theorem Ints.lt(h:Ints w g F):g<w.heap.size:=by obtain⟨eI,hc,_⟩:=h;exact(aX.1 hc).1
theorem Ints.cell(h:Ints w g F)(hk:k<1001):w.cell? ⟨g,k,aN⟩=aO (aa ag (F k))/\w.frozen? ⟨g,k,aN⟩=aH:=by obtain⟨eI,hc,hs,hh⟩:=h;exact⟨by simp[World.cell?,hc,hh k hk],by simp[World.frozen?,hc]⟩
theorem Ints.below{w':aw}{B:aE}(h:Ints w g F)(hB:au B w w')(hg:g<B):Ints w' g F:=by obtain⟨eI,hc,hh⟩:=h;exact⟨eI,(hB.block g hg).trans hc,hh⟩
theorem Ints.bB{w':aw}(h:Ints w g F)(hB:au w w w'):Ints w' g F:=h.below hB h.lt
theorem O1{eI:Array az}{t:TypeId}{f:aE × aE}(h:w.heap[g]?=aO (aM eI t f))(o:aE)(v:az):(w.setCell ⟨g,o,aN⟩ v).heap[g]?=aO (aM (eI.setIfInBounds o v) t f):=by simp[World.setCell,iJ,h]
theorem Ints.set(h:Ints w g F)(hk:k<1001)(x:aF):Ints (w.setCell ⟨g,k,aN⟩ (aa ag x)) g (fun j=>if j=k then x else F j):=by
 obtain⟨eI,hc,hs,hh⟩:=h;refine⟨_,O1 hc k _,by simpa using hs,fun j hj=>?_⟩;rw[fE];by_cases e:k=j
 ·subst e;rw[aY rfl,aY (by omega)];simp
 ·rw[aW e,hh j hj];simp only;rw[aW (fun h=>e (Eq.symm h))]
theorem Ints.congr{G:aE->aF}(h:Ints w g F)(e:∀ k,k<1001->F k=G k):Ints w g G:=by obtain⟨eI,hc,hs,hh⟩:=h;exact⟨eI,hc,hs,fun k hk=>by rw[hh k hk,e k hk]⟩
def zeros:Array az:=madeCells #[aa ag 0] 1001
theorem MY(w:aw):Ints (w.alloc (aM zeros 3)) w (fun _=>0):=by refine⟨zeros,by show(w.heap.push _)[w.heap.size]?=_;simp,size_madeCells _ _,fun k hk=>?_⟩;have:zeros.toList=List.replicate 1001 (aa ag 0):=toList_madeCells_one _ _;rw[<- gJ,this,List.getElem?_replicate,aY hk]
theorem acs:∃ i0,Tryz.prog.info? 3=aO i0/\i0.zero=aO (aa ag 0)/\i0.size=1/\i0.bytes=8:=by
 have h:(Tryz.prog.info? 3).map (fun i=>(i.zero,i.size,i.bytes))=aO (aO (aa ag 0),1,8):=by kernel_rfl
 cases hi:Tryz.prog.info? 3 with
 | none=>rw[hi]at h;cases h
 | some i0 =>rw[hi]at h;simp only[dF,dt,jX]at h;exact⟨i0,rfl,h.1,h.2.1,h.2.2⟩
theorem Pr(w:aw):Sem.run aP (Instr.makeSlice 152 (aa ag 1001) (aa ag 1001)) w=.ok (ah (aO w) 1001 1001) (w.alloc (aM zeros 3)):=by obtain⟨i0,hi,ou,mL,mh⟩:=acs;have h:=run_make (P:=aP) w 152 3 i0 (aa ag 0) underlying152 hi ou .i64 .i64 1001 1001 (by decide) (by decide) (by rw[mh];decide) (by decide);rw[mL]at h;exact h
structure BI (Y g:aE) (yo:aF) (kf kt:aE) (ya:Bool) (F:aE->aF) (w W:aw):Prop where
 ys:W.cell? Y=aO (aa ag yo)/\W.cell? ⟨Y,1,aN⟩=aO (aa ag (kf:aF))/\W.cell? ⟨Y,2,aN⟩=aO (aa ag (kt:aF))/\W.cell? ⟨Y,3,aN⟩=aO (aq ya)
 ints:Ints W g F
 below:au w w W
 ne:g≠Y
 aS:w<=g
theorem BI.congr{Y:aE}{G:aE->aF}{W:aw}(h:BI Y g yo kf kt ya F w W)(e:∀ k,F k=G k):BI Y g yo kf kt ya G w W:=
 ⟨h.ys,h.ints.congr (fun k _=>e k),h.below,h.ne,h.aS⟩
theorem BI.set{Y:aE}{W:aw}(h:BI Y g yo kf kt ya F w W)(hk:k<1001)(x:aF):BI Y g yo kf kt ya (fun j=>if j=k then x else F j) w (W.setCell ⟨g,k,aN⟩ (aa ag x)):=by
 have hne:∀ i,(⟨g,k,aN⟩:aJ)≠⟨Y,i,aN⟩:=fun i e=>h.ne (by simpa using congrArg Addr.block e)
 obtain⟨a,b,c,d⟩:=h.ys;exact⟨⟨(cN (h:=hne 0) ..).trans a,(cN (h:=hne 1) ..).trans b,(cN (h:=hne 2) ..).trans c,(cN (h:=hne 3) ..).trans d⟩,h.ints.set hk x,h.below.setCell h.aS _,h.ne,h.aS⟩
theorem BI.start{wr:aw}(h:Ints wr w F)(hB:au w w wr):BI wr w yo kf kt ya F w (wr.alloc (aM #[aa ag yo,aa ag (kf:aF),aa ag (kt:aF),aq ya] 117)):=
 ⟨(iv (bC _) (aR _ _)).1,h.bB ((Grown.refl wr).alloc _).below,Below.bK hB ((Grown.refl wr).alloc _).below,Nat.ne_of_lt h.lt,aV _⟩
theorem GC(l:aB Lk)(o:aF)(p:aC aJ)(cap:aE)(w:aw)(hL:bI w p l)(hn:l.length<=40)(lH:∀ x∈l,rH x):ay aP 103 #[ah p l.length cap,aa ag o] w fun r w'=>r=aK (ah (aO w) 1001 1001)/\Ints w' w (jn o (fun _=>0) l)/\au w w w':=by
 have HL:ax (bI w p l):=hL;have UZ:ax (∀ x∈l,rH x):=lH;obtain⟨n,eK⟩:=ee l.length
 have HN:ax (n=l.length):=eK;rw[<- eK]at hn ⊢;clear eK hL lH;have hmk:=Pr;have HZ:ax (Ints (w.alloc (aM zeros 3)) w (fun _=>0)):=MY w;go_enter func103,ntmps103;go_wp2;go_loopg [12] n (fun gg s12 wr=>∃ j:aE,j<=n/\n-j<=gg/\s12=aa ag j/\ax (Ints wr w (jn o (fun _=>0) (l.take j))/\au w w wr))
 case atStart=>exact⟨0,bF _,by omega,rfl,(⟨HZ.out,((Grown.refl w).alloc _).below⟩:_/\_)⟩
 case round=>
  obtain⟨j,hj,hg,rfl,J⟩:=hrel;by_cases gm:j<n
  ·have eN:(j:aF)<(n:aF):=by omega
   obtain⟨y,hy⟩:∃ y,l[j]?=aO y:=⟨_,aU (by have:=HN.out;omega)⟩
   have HS:ax (∀ k,jn o (fun _=>0) (l.take (j+1)) k=if y.o=o/\y.f<=k/\(k:aF)<y.t then qz y.a else jn o (fun _=>0) (l.take j) k):=fun k=>by rw[gi hy,Ia]
   obtain⟨_,_,y1,y2,y3⟩:=UZ.out y (bw hy);rcases HL.out with h0|⟨b,off,rfl,hb,hc⟩
   ·rw[h0]at hy;simp at hy
   obtain⟨c0,c1,c2,c3⟩:=bI.cells hc hb J.2 hy;have iL:=J.2.size;have Sa:=J.1.lt;have ot:b<wr.heap.size:=by omega
   have hne:b≠wr.heap.size:=by omega
   clear hc hy;obtain⟨yo,yf,yt,ya⟩:=y;simp only at y1 y2 y3 c0 c1 c2 c3 HS;obtain⟨kf,rfl⟩:=kr y1;obtain⟨kt,rfl⟩:=kr (show 0<=yt by omega);have HX:ax (BI wr w yo kf kt ya (jn o (fun _=>0) (l.take j)) w (wr.alloc (aM #[aa ag yo,aa ag (kf:aF),aa ag (kt:aF),aq ya] 117))):=BI.start J.1 J.2;by_cases ho:yo=o
   ·subst ho
    go_wp2;go_loopg [8] 1001 (fun gg s8 wr2=>∃ kk:aE,kf<=kk/\kk<=kt/\1001-kk<=gg/\s8=aa ag kk/\ax (BI wr w yo kf kt ya (fun i=>if kf<=i/\i<kk then qz ya else jn yo (fun _=>0) (l.take j) i) w wr2))
    case atStart=>exact⟨kf,aV _,by omega,by omega,rfl,HX.congr (fun i=>by rw[aW (by omega)])⟩
    case round=>
     obtain⟨kk,Nt,j4,uI,rfl,Q⟩:=hrel;obtain⟨d0,d1,d2,d3⟩:=Q.ys;by_cases hkt:kk<kt
     ·have VF:(kk:aF)<(kt:aF):=by omega
      have x8:kk<1001:=by omega
      have He:(kk:aF)<1001:=by omega
      obtain⟨e0,e1⟩:=Q.ints.cell x8;have hgY:=Q.ne;have Q1:=Q.set x8 1;obtain⟨q0,q1,q2,q3⟩:=Q1.ys;obtain⟨r0,r1⟩:=Q1.ints.cell x8;cases ya
      ·have HQ:ax _:=Q1
       clear Q1;go_wp2;go_roundg (1001-(kk+1))
       case measure=>omega
       case rel=>exact⟨kk+1,by omega,by omega,by omega,by go_num,HQ.congr (fun i=>by simp only[qz];split<;>split<;>first|rfl|omega|(split<;>first|rfl|omega))⟩
      ·have HQ:ax _:=Q1.set x8 2
       clear Q1;go_wp2;go_roundg (1001-(kk+1))
       case measure=>omega
       case rel=>exact⟨kk+1,by omega,by omega,by omega,by go_num,HQ.congr (fun i=>by simp only[qz];split<;>split<;>first|rfl|omega|(split<;>first|rfl|omega))⟩
     ·have VF:¬ (kk:aF)<(kt:aF):=by omega
      go_wp2;go_roundg (n-(j+1))
      case measure=>omega
      case rel=>exact⟨j+1,by omega,by omega,by go_num,(⟨Q.ints.congr (fun i hi=>by rw[HS.out];simp only[true_and];congr 1;simp only[eq_iff_iff];omega),Q.below⟩:_/\_)⟩
   ·have Cp:(yo == o)=aH:=dw.2 ho
    go_wp2;go_loopg [8] 1001 (fun gg s8 wr2=>s8=aa ag (kf:aF)/\ax (BI wr w yo kf kt ya (jn o (fun _=>0) (l.take j)) w wr2))
    case atStart=>exact⟨rfl,HX.out⟩
    case round=>
     obtain⟨rfl,Q⟩:=hrel;obtain⟨d0,d1,d2,d3⟩:=Q.ys;go_wp2;go_roundg (n-(j+1))
     case measure=>omega
     case rel=>exact⟨j+1,by omega,by omega,by go_num,(⟨Q.ints.congr (fun i hi=>by rw[HS.out,aW (fun h=>ho h.1)]),Q.below⟩:_/\_)⟩
  ·have eN:¬ (j:aF)<(n:aF):=by omega
   have hJ:=J.out;rw[cz (by have:=HN.out;omega)]at hJ;have HJ:ax (Ints wr w (jn o (fun _=>0) l)/\au w w wr):=hJ;clear hJ J;go_wp2;go_ret;exact⟨rfl,HJ.out⟩
end Go.Proofs.YtjnkfelecopbjaaGreatDoor.LK
namespace Go.Proofs.YtjnkfelecopbjaaGreatDoor.LK
open Go.RowKit Go.Sort KM
theorem JG{o:aF}{F:aE->aF}{k e:aE}{out:aB Lk}(h:sB o F k out)(hl:out.length<=k)(YK:k<e):(if 0<F k then out++[⟨o,k,e,decide (F k=2)⟩]else out).length<=e:=by
 split
 ·simp;omega
 ·omega
def QX(F:aE->aF)(o:aF)(w:aw)(e:Ending)(w':aw):Prop:=
 ∃ v out,e=aK v/\Rows w' w v out/\sB o F 1000 out/\out.length<=1000/\au w w w'
theorem Jw(F:aE->aF)(g:aE)(o:aF)(w:aw)(hI:Ints w g F)(hF:∀ k,k<1001->F k=0\/F k=1\/F k=2):ay aP 104 #[ah (aO g) 1001 1001,aa ag o] w (QX F o w):=by
 have HI:ax (Ints w g F):=hI;have HF:ax (∀ k,k<1001->F k=0\/F k=1\/F k=2):=hF;have Sa:=hI.lt;clear hI hF;go_enter func104,ntmps104;go_wp2;go_loopg [5,6] 1001 (fun gg s5 s6 wr=>∃ (k:aE) (out:aB Lk),k<=1000/\1001-k<=gg/\s6=aa ag k/\ax (Rows wr w s5 out/\sB o F k out/\out.length<=k/\au w w wr/\(0<k->k<1000->F (k-1)≠F k)))
 case atStart=>exact⟨0,[],by omega,by omega,rfl,(⟨Rows.nil _ _,TF _ _,by simp,aR _ _,fun h=>by omega⟩:_/\_/\_/\_/\_)⟩
 case round=>
  obtain⟨k,out,hk,hg,rfl,I⟩:=hrel;by_cases gm:k<1000
  ·have eN:(k:aF)<1000:=by omega
   have He:(k:aF)<1001:=by omega
   obtain⟨pv,cv,rfl,_,_,_⟩:=I.1.form;generalize hno:out.length=no at I;have ZB:ax (out.length=no):=hno;clear hno;have HIr:ax (Ints wr g F):=HI.bB I.2.2.2.1;obtain⟨W1,rfl⟩:=ee wr
   go_wp2;go_loopg [7] 1001 (fun gg s7 wr2=>∃ e:aE,k<e/\e<=1000/\1001-e<=gg/\s7=aa ag e/\ax (au W1 W1 wr2/\∀ i,k<=i->i<e->F i=F k))
   case atStart=>exact⟨k+1,by omega,by omega,by omega,by go_num,(⟨aR _ _,fun i h1 h2=>by rw[show i=k by omega]⟩:_/\_)⟩
   case round=>
    obtain⟨e,DX,Eh,uI,rfl,Q⟩:=hrel;by_cases he:e<1000
    ·have hez:(e:aF)<1000:=by omega
     have akD:(e:aF)<1001:=by omega
     obtain⟨e0,e1⟩:=(HIr.bB Q.1).cell (show e<1001 by omega);by_cases heq:F e=F k
     ·obtain⟨k0,k1⟩:=(HIr.bB Q.1).cell (show k<1001 by omega)
      have HQ:ax (au W1 W1 wr/\∀ i,k<=i->i<e+1->F i=F k):=⟨Q.1,fun i h1 h2=>by
       by_cases h:i<e
       ·exact Q.2 i h1 h
       ·rw[show i=e by omega];exact heq⟩
      have F7:(F e == F k)=aI:=by rw[heq];simp
      clear heq;go_wp2;go_quiet (fail);go_wp2;go_roundg (1001-(e+1))
      case measure=>omega
      case rel=>exact⟨e+1,by omega,by omega,by omega,by go_num,(⟨cG HQ.1 _,HQ.2⟩:_/\_)⟩
     ·have F7:(F e == F k)=aH:=dw.2 heq
      have Cb:ax (au W1 W1 wr):=Q.1;have US:ax (Ints wr g F):=HIr.bB Cb.out;obtain⟨k0,k1⟩:=US.cell (show k<1001 by omega);have WG:ax (Rows wr w (ah pv no cv) out):=I.1.below Cb.out;have hsw:w.heap.size<=wr.heap.size:=bc I.2.2.2.1.size Cb.size;have uY:ax (sB o F e (if 0<F k then out++[⟨o,k,e,decide (F k=2)⟩]else out)/\(if 0<F k then out++[⟨o,k,e,decide (F k=2)⟩]else out).length<=e):=⟨Fq I.2.1 DX Q.2 (HF.out k (by omega)) (fun h=>I.2.2.2.2 h (by omega)),JG I.2.1 (by rw[ZB.out];exact I.2.2.1) DX⟩
      have WB:ax (0<e->e<1000->F (e-1)≠F e):=fun h1 h2 h3=>heq (by rw[<- h3];exact Q.2 (e-1) (by omega) (by omega))
      by_cases hp:0<F k
      ·go_wp2
       go_quiet (fail);go_wp2_with (at_builtin;refine gS _ ⟨o,k,e,F k == 2⟩ rfl _ _ rfl w (ah pv no cv) out rfl (WG.below (cG (aR _ _) _)) (by have:=I.2.2.1;have:=ZB.out;omega) (by first|exact hsw|(simp;omega)) wr rfl rfl ?_);intro v' w3 yC eG _ SA;have U1:ax (Rows w3 w v' (out++[⟨o,k,e,F k == 2⟩])/\au w w w3):=⟨yC,(I.2.2.2.1.trans (Cb.mono I.2.2.2.1.size)).trans ((cG (aR _ _) _).trans eG)⟩
       clear yC eG SA;go_wp2;go_roundg (1001-e)
       case measure=>omega
       case rel =>have h:=uY.out;rw[aY hp,show decide (F k=2)=(F k == 2) by rw[dN];simp]at h;exact⟨e,out++[(⟨o,k,e,F k == 2⟩:Lk)],by omega,by omega,rfl,(⟨U1.1,h.1,h.2,U1.2,WB.out⟩:_/\_/\_/\_/\_)⟩
      ·go_wp2
       go_quiet (fail);go_wp2;go_roundg (1001-e)
       case measure=>omega
       case rel =>have h:=uY.out;rw[aW (by omega)]at h;exact⟨e,out,by omega,by omega,rfl,(⟨WG.below (cG (aR _ _) _),h.1,h.2,(I.2.2.2.1.trans (Cb.mono I.2.2.2.1.size)).trans (cG (aR _ _) _),WB.out⟩:_/\_/\_/\_/\_)⟩
    ·obtain rfl:e=1000:=by omega
     clear he uI Eh;have Cb:ax (au W1 W1 wr):=Q.1;have US:ax (Ints wr g F):=HIr.bB Cb.out;obtain⟨k0,k1⟩:=US.cell (show k<1001 by omega);have WG:ax (Rows wr w (ah pv no cv) out):=I.1.below Cb.out;have hsw:w.heap.size<=wr.heap.size:=bc I.2.2.2.1.size Cb.size;have uY:ax (sB o F 1000 (if 0<F k then out++[⟨o,k,1000,decide (F k=2)⟩]else out)/\(if 0<F k then out++[⟨o,k,1000,decide (F k=2)⟩]else out).length<=1000):=⟨Fq I.2.1 DX Q.2 (HF.out k (by omega)) (fun h=>I.2.2.2.2 h (by omega)),JG I.2.1 (by rw[ZB.out];exact I.2.2.1) DX⟩
     have WB:ax (0<1000->1000<1000->F (1000-1)≠F 1000):=fun h1 h2=>by omega
     by_cases hp:0<F k
     ·go_wp2
      go_quiet (fail);go_wp2_with (at_builtin;refine gS _ ⟨o,k,1000,F k == 2⟩ rfl _ _ rfl w (ah pv no cv) out rfl (WG.below (cG (aR _ _) _)) (by have:=I.2.2.1;have:=ZB.out;omega) (by first|exact hsw|(simp;omega)) wr rfl rfl ?_);intro v' w3 yC eG _ SA;have U1:ax (Rows w3 w v' (out++[⟨o,k,1000,F k == 2⟩])/\au w w w3):=⟨yC,(I.2.2.2.1.trans (Cb.mono I.2.2.2.1.size)).trans ((cG (aR _ _) _).trans eG)⟩
      clear yC eG SA;go_wp2;go_roundg (1001-1000)
      case measure=>omega
      case rel =>have h:=uY.out;rw[aY hp,show decide (F k=2)=(F k == 2) by rw[dN];simp]at h;exact⟨1000,out++[(⟨o,k,1000,F k == 2⟩:Lk)],by omega,by omega,rfl,(⟨U1.1,h.1,h.2,U1.2,WB.out⟩:_/\_/\_/\_/\_)⟩
     ·go_wp2
      go_quiet (fail);go_wp2;go_roundg (1001-1000)
      case measure=>omega
      case rel =>have h:=uY.out;rw[aW (by omega)]at h;exact⟨1000,out,by omega,by omega,rfl,(⟨WG.below (cG (aR _ _) _),h.1,h.2,(I.2.2.2.1.trans (Cb.mono I.2.2.2.1.size)).trans (cG (aR _ _) _),WB.out⟩:_/\_/\_/\_/\_)⟩
  ·have eN:¬ (k:aF)<1000:=by omega
   have HJ:ax _:=I.out;obtain rfl:k=1000:=by omega
   clear I;go_wp2;go_ret;exact⟨_,out,rfl,HJ.1,HJ.2.1,HJ.2.2.1,HJ.2.2.2.1⟩
end Go.Proofs.YtjnkfelecopbjaaGreatDoor.LK
namespace Go.Proofs.YtjnkfelecopbjaaGreatDoor.LK
open Go.RowKit Go.Sort KM
theorem rZ{ops:Array Oper}{rest:aB Oper}{o:Oper}{a:Act}{Q:Exit->Act->aw->Prop}(X:aw)(ly:o.guard=aN)(s x:Operand)(ho:o.op=.call { callee:=.builtin .append,args:=#[s,x],argTypes:=#[96,96] })(aS:aE)(v:az)(l:aB Lk)(hs:a.eval s=v)(jF:Rows X aS v l)(eD:aS<=X)(b2:aE)(vr:az)(m:aB Lk)(hx:a.eval x=vr)(hr:Rows X b2 vr m)(hlen:(l.length+m.length)*32<=140737488355328)(h:∀ v' w',Rows w' aS v' (l++m)->au aS X w'->wpList aP ops Q rest (a.put o.dst v') w'):wpList aP ops Q (o::rest) a X:=by
 obtain⟨i0,hi,ou,mL,mh⟩:=Nz;obtain⟨p,c,rfl,hL,hc,iR⟩:=hr.form;cases p with
 | none=>
  obtain rfl:c=0:=iR rfl;have hm:m=[]:=by
   rcases hL with h|⟨b,off,he,_⟩
   ·exact h
   ·cases he
  subst hm;refine wpList_append_own_none ly s x 96 ho aS 117 i0 4 underlying96 hi v _ _ hs jF hx ?_;have:=h v X (by simpa using jF) (aR _ _);exact this
 | some ad =>refine dP X ly s x 96 ho aS 117 i0 _ 4 32 underlying96 hi ou mL mh rfl (by decide) _ _ _ hs jF ad m.length c (m.flatMap jY) hx (by rw[iY]) (hL.flat (aR _ _)) (fun u hu=>kA hu) (by unfold maxLen;omega) (by omega) eD ?_;intro v' w' gG gN _;refine h v' w' (by simpa[Rows,uZ]using gG) ((aR aS X).grown gN eD (fun j hj=>(gQ jF j hj).1))
theorem QY{l:aB Lk}{x:Lk}{j:aE}(h:∀ y∈l.take j,gq x y=aH)(hj:l.length<=j):l.any (gq x)=aH:=by rw[cz hj]at h;rw[ks];intro y hy;simp[h y hy]
structure aaM (l:aB Lk) (p:aC aJ) (n cap:aE) (w:aw):Prop where
 bytes:∀ (o:aE) W,au w w W->ay aP 103 #[ah p n cap,aa ag (o:aF)] W fun r w'=>r=aK (ah (aO W) 1001 1001)/\Ints w' W (jn (o:aF) (fun _=>0) l)/\au W W w'
theorem agM(l:aB Lk)(p:aC aJ)(cap:aE)(w:aw)(hL:bI w p l)(hn:l.length<=40)(lH:∀ x∈l,rH x):aaM l p l.length cap w:=
 ⟨fun o W hB=>GC l o p cap W (hL.bB hB) hn lH⟩
theorem acS(free:Bool)(l:aB Lk)(x:Lk)(how:aF)(p:aC aJ)(n cap:aE)(w:aw)(hC:U7 l x p n cap w)(h1:(eA l).1=0)(h2:(eA [x]).1=0)(hN:n=l.length)(hL:bI w p l)(hP:jq l x=0)(hn:n<4611686018427387904)(hD:aaM l p n cap w)(hx:rH x)(O4:how=uK free x):ay aP 56 #[ah p n cap,ar #[aa ag x.o, aa ag x.f, aa ag x.t, aq x.a],aa ag how] w (mA free l x w):=by
 have HP:ax (jq l x=0):=hP;have HFR:ax (free=aH↔0<how):=by
  show _↔_;rw[O4];cases free
  ·simpa[uK]using C9 x.a
  ·simp[uK]
 have HN:ax (n=l.length):=hN;have HL:ax (bI w p l):=hL;clear hP hN hL;have HOX:ax (rH x):=hx;have HHW:ax (how=uK free x):=O4;have hby:=hD.bytes;have HHT:ax (how=0\/how=1\/how=2):=by show _\/_;rw[O4];exact IP _ _
 obtain⟨kf,Z8⟩:=kr hx.2.2.1;obtain⟨kt,hkt⟩:=kr (show 0<=x.t by have:=hx.2.2.1;have:=hx.2.2.2.1;omega);have qF:kf<kt:=by have:=hx.2.2.2.1;omega
 have afT:kt<=1000:=by have:=hx.2.2.2.2;omega
 have HKF:ax (x.f=(kf:aF)):=Z8;have HKT:ax (x.t=(kt:aF)):=hkt;clear hx O4 hD Z8 hkt;have qM:=hC.wr1;have xw:=hC.wr2;unfold mX at qM;rw[h1]at qM;rw[h2]at xw;generalize (eA [x]).2=f2' at *;generalize (eA l).2=X6 at *;clear hC h1 h2;have I:au (w.heap.size+1) (w.alloc (aM #[aa ag x.o, aa ag x.f, aa ag x.t, aq x.a] 117)) (w.alloc (aM #[aa ag x.o, aa ag x.f, aa ag x.t, aq x.a] 117)):=aR _ _;have Gc:=Ch;go_enter func56,ntmps56;go_upto_if 32 with(first
  | (go_at_call 101;refine(qM _ (eX I)).mono ?_;clear qM;rintro e w3 ⟨rfl,hN⟩;replace I:=NR (o2:=.cells #[aa ag 0,aa ag X6] 56) (oC I hN);clear hN;obtain⟨⟨q0,q1,q2,q3⟩,_⟩:=iv (bC _) I)
  | (go_at_call 101;refine(xw _ (w3.heap.size+1) (by simp)).mono ?_;clear xw;rintro e w4 ⟨rfl,hN⟩;replace I:=NR (o2:=.cells #[aa ag 0,aa ag f2'] 56) (oC I hN);clear hN q0 q1 q2 q3))
 have FI:ax (au (w.heap.size+1) (w.alloc (aM #[aa ag x.o, aa ag x.f, aa ag x.t, aq x.a] 117)) (w4.alloc (aM #[aa ag 0,aa ag f2'] 56))):=I;clear I;generalize w4.alloc (aM #[aa ag 0,aa ag f2'] 56)=w5 at FI ⊢;generalize mZ:decide (0<how)=dp;have HFD:ax (free = !dp):=by
  show _=_;rw[<- mZ];cases hf:free
  ·simpa using HFR.1 hf
  ·have:=HFR.2
   simp[hf]at this ⊢;exact this
 clear mZ;go_cut []from 31 to 42 (fun w'=>ax (au (w.heap.size+1) (w.alloc (aM #[aa ag x.o, aa ag x.f, aa ag x.t, aq x.a] 117)) w')/\ax (free=aI\/l.any (gq x)=aH))
 case first=>
  cases dp with
  | true=>
   go_wp2;go_loopg [35] n (fun gg sl wr=>∃ j:aE,j<=n/\n-j<=gg/\sl=aa ag j/\ax (au (w.heap.size+1) (w.alloc (aM #[aa ag x.o, aa ag x.f, aa ag x.t, aq x.a] 117)) wr)/\ax (∀ y∈l.take j,gq x y=aH))
   case atStart=>exact⟨0,bF _,by omega,rfl,FI.out,by intro y hy;simp at hy⟩
   case round=>
    obtain⟨j,hj,hg,rfl,J,HA⟩:=hrel;obtain⟨⟨q0,q1,q2,q3⟩,_⟩:=iv (bC _) J.out;have WT:=J.size;simp only[cE]at WT;have hxl:w.heap.size<wr.heap.size:=by omega
    by_cases gm:j<n
    ·have eN:(j:aF)<(n:aF):=by omega
     obtain⟨y,hy⟩:∃ y,l[j]?=aO y:=⟨_,aU (by have:=HN.out;omega)⟩
     have HY:ax (l[j]?=aO y):=hy;rcases HL.out with h0|⟨b,off,rfl,hb,hc⟩
     ·rw[h0]at hy;simp at hy
     obtain⟨c0,c1,c2,c3⟩:=bI.cells hc hb (eX J.out) hy;have Vw:b<wr.heap.size:=by omega
     have Hc:b≠wr.heap.size:=by omega
     have hX:au wr wr (wr.alloc (aM #[aa ag y.o, aa ag y.f, aa ag y.t, aq y.a] 117)):=((Grown.refl wr).alloc _).below;clear hc hy;have pj:=fun W=>zB x y W
     obtain⟨cu,oF⟩:=o7 (gq x y)
     rw[oF]at pj;have UO:ax (gq x y=cu):=oF;clear oF;go_wp2_with (go_at_call 102;refine(pj _).mono ?_;clear pj;rintro r w5 ⟨rfl,hG⟩;have HJ3:ax (au (w.heap.size+1) (w.alloc (aM #[aa ag x.o, aa ag x.f, aa ag x.t, aq x.a] 117)) w5):=oC J.out (Below.bK hX hG.below);clear hG;cases cu)
     ·go_roundg (n-(j+1))
      case measure=>omega
      case rel=>exact⟨j+1,by omega,by omega,by go_num,HJ3.out,rM HY.out UO.out HA.out⟩
     ·go_ret2
      exact⟨ah aN 0 0,13,[],rfl,Rows.nil _ _,.inr (.inl ⟨HP.out,HFD.out,dy.2 ⟨y,bw HY.out,UO.out⟩,rfl,rfl⟩),eX HJ3.out⟩
    ·have eN:¬ (j:aF)<(n:aF):=by omega
     go_wp2;go_meet
     case rel=>exact⟨J.out,.inr (QY HA.out (by have:=HN.out;omega))⟩
  | false=>
   go_wp2;go_meet
   case rel=>exact⟨FI.out,.inl HFD.out⟩
 case rest=>
 obtain⟨lV,XB⟩:=hcut;clear FI;go_wp2;go_loopg [12,13] 4 (fun gg s9 s10 wr=>∃ (o:aE) (out:aB Lk),o<=4/\4-o<=gg/\s10=aa ag o/\ax (Rows wr (w.heap.size+1) s9 out/\zY (dQ l x how) o out)/\ax (au (w.heap.size+1) (w.alloc (aM #[aa ag x.o, aa ag x.f, aa ag x.t, aq x.a] 117)) wr))
 case atStart=>exact⟨0,[],by omega,by omega,rfl,(⟨Rows.nil _ _,Mp _⟩:_/\_),lV.out⟩
 case round=>
  obtain⟨o,out,zg,vh,rfl,RO,J⟩:=hrel;obtain⟨pv,cv,rfl,_,_,_⟩:=RO.1.form;generalize hno:out.length=no at RO;have ZB:ax (out.length=no):=hno;clear hno;by_cases ho:o<4
  ·have UA:(o:aF)<4:=by omega
   have abh:=hby o _ (eX J.out);obtain⟨W1,rfl⟩:=ee wr
   have WT:=J.size;simp only[cE]at WT;go_wp2_with (go_at_call 103;refine abh.mono ?_;clear abh;rintro r w5 ⟨rfl,hI5,fA⟩;have HI5:ax (Ints w5 W1 (jn (o:aF) (fun _=>0) l)/\au W1 W1 w5):=⟨hI5,fA⟩;have hg5:=hI5.lt;clear hI5 fA;obtain⟨⟨e0,e1,e2,e3⟩,_⟩:=iv (bC _) (oC J.out HI5.2);rw[HKF.out]at e1;rw[HKT.out]at e2);clear e0 e1 e2 e3;go_loopg [15] 1001 (fun gg s15 wr2=>∃ kk:aE,kf<=kk/\kk<=kt/\1001-kk<=gg/\s15=aa ag kk/\ax (Ints wr2 W1 (fun i=>if(o:aF)=x.o/\kf<=i/\i<kk then how else jn (o:aF) (fun _=>0) l i)/\au W1 W1 wr2))
   case atStart=>exact⟨kf,aV _,by omega,by omega,rfl,(⟨HI5.1.congr (fun i _=>by rw[aW (by omega)]),HI5.2⟩:_/\_)⟩
   case round=>
    obtain⟨kk,Nt,j4,uI,rfl,Q⟩:=hrel;obtain⟨⟨e0,e1,e2,e3⟩,_⟩:=iv (bC _) (oC J.out Q.2);rw[HKF.out]at e1;rw[HKT.out]at e2;by_cases abz:kk<kt/\(o:aF)=x.o
    ·obtain⟨hkt,YU⟩:=abz
     have VF:(kk:aF)<(kt:aF):=by omega
     have Qw:((o:aF) == x.o)=aI:=by rw[YU];simp
     have x8:kk<1001:=by omega
     have He:(kk:aF)<1001:=by omega
     obtain⟨d0,d1⟩:=Q.1.cell x8;have HQ:ax (Ints (wr.setCell ⟨W1,kk,aN⟩ (aa ag how)) W1 (fun i=>if(o:aF)=x.o/\kf<=i/\i<kk+1 then how else jn (o:aF) (fun _=>0) l i)/\au W1 W1 (wr.setCell ⟨W1,kk,aN⟩ (aa ag how))):=
      ⟨(Q.1.set x8 how).congr (fun i _=>by simp only[YU,true_and];split<;>split<;>first|rfl|omega|(split<;>first|rfl|omega)),Q.2.setCell (aV _) _⟩
     clear YU;go_wp2;go_roundg (1001-(kk+1))
     case measure=>omega
     case rel=>exact⟨kk+1,by omega,by omega,by omega,by go_num,HQ.out⟩
    have HI6:ax (Ints wr W1 (dQ l x how (o:aF))):=Q.1.congr (fun i _=>by
     unfold dQ;rw[HKF.out,HKT.out];by_cases h:(o:aF)=x.o/\kf<=i/\i<kk
     ·rw[aY h,aY ⟨h.1,by omega,by omega⟩]
     ·rw[aW h,aW (fun g=>(by grind:¬ ((o:aF)=x.o/\kf<=i/\i<kt)) ⟨g.1,by omega,by omega⟩)])
    have hw:¬ (kk:aF)<(kt:aF)\/((kk:aF)<(kt:aF)/\((o:aF) == x.o)=aH):=by rw[dw];omega
    clear abz;have hsw:w.heap.size+1<=wr.heap.size:=by have:=Q.2.size;omega
    have XO:ax (Rows wr (w.heap.size+1) (ah pv no cv) out):=RO.1.below Q.2;have hrn:=Jw (dQ l x how (o:aF)) W1 (o:aF) wr HI6.out (fun k _=>Mt l x how (o:aF) k HHT.out);rcases hw with VF|⟨VF,Qw⟩ <;>
    (go_wp2_with (first
      | (go_at_call 104;refine hrn.mono ?_;clear hrn;rintro r w6 ⟨vr,LY,rfl,OV,wL,hl6,E3⟩;have zT:ax (Rows w6 wr vr LY/\sB (o:aF) (dQ l x how (o:aF)) 1000 LY/\LY.length<=1000/\au wr wr w6):=⟨OV,wL,hl6,E3⟩;clear OV wL hl6 E3)
      | (at_builtin;refine rZ _ rfl _ _ rfl (w.heap.size+1) (ah pv no cv) out rfl (XO.below zT.2.2.2) (by have:=zT.2.2.2.size;omega) wr.heap.size vr LY rfl zT.1 (by have:=zT.2.2.1;have:=RO.2.len;omega) ?_))
     intro v7 w7 KT ie;have HR7:ax (Rows w7 (w.heap.size+1) v7 (out++LY)/\zY (dQ l x how) (o+1) (out++LY)):=⟨KT,JF RO.2 zT.2.1 zT.2.2.1⟩
     have JX:ax (au (w.heap.size+1) (w.alloc (aM #[aa ag x.o, aa ag x.f, aa ag x.t, aq x.a] 117)) w7):=(oC (oC J.out Q.2) zT.2.2.2).trans (ie.mono (aV _));clear KT ie;go_wp2;go_roundg (4-(o+1))
     case measure=>omega
     case rel=>exact⟨o+1,out++LY,by omega,aV _,by go_num,HR7.out,JX.out⟩)
  ·have UA:¬ (o:aF)<4:=by omega
   obtain rfl:o=4:=by omega
   have HSP:ax (jl out/\nO free l x out):=P2 (oA.1 HP.out).1.2 HOX.out XB.out (by rw[<- HHW.out];exact RO.2);have HR8:ax (Rows wr w (ah pv no cv) out):=RO.1.mono (by omega);have Xa:=ZB;clear RO;by_cases KQ:(40:aF)<(no:aF)
   ·go_wp2
    go_ret2;exact⟨ah aN 0 0,5,[],rfl,Rows.nil _ _,.inr (.inr ⟨HP.out,XB.out,out,HSP.1,HSP.2,.inl ⟨by have:=Xa.out;omega,rfl,rfl⟩⟩),eX J.out⟩
   ·go_wp2
    go_ret2;exact⟨ah pv no cv,0,out,rfl,HR8.out,.inr (.inr ⟨HP.out,XB.out,out,HSP.1,HSP.2,.inr ⟨by have:=Xa.out;omega,rfl,rfl⟩⟩),eX J.out⟩
theorem Dz(free:Bool)(l:aB Lk)(x:Lk)(how:aF)(p:aC aJ)(cap:aE)(w:aw)(hL:bI w p l)(hn:l.length<4611686018427387904)(ir:l.length<=cap)(O4:how=uK free x):ay aP 56 #[ah p l.length cap,ar #[aa ag x.o, aa ag x.f, aa ag x.t, aq x.a],aa ag how] w (mA free l x w):=by
 have hC:=agL l x p cap w hL hn ir;by_cases h1:(eA l).1=0
 ·by_cases h2:(eA [x]).1=0
  ·have hP:jq l x=0:=by rw[Dv h1];exact h2
   obtain⟨⟨KQ,hr⟩,hx⟩:=oA.1 hP;have hD:=agM l p cap w hL KQ hr.ok;exact acS free l x how p l.length cap w hC h1 h2 rfl hL hP hn hD hx O4
  ·exact acR free l x how p l.length cap w hC h1 h2
 ·exact acQ free l x how p l.length cap w hC h1
end Go.Proofs.YtjnkfelecopbjaaGreatDoor.LK
