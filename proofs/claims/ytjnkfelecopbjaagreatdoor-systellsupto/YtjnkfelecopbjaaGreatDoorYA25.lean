import Derived.Test.YtjnkfelecopbjaaGreatDoorYA24
import Derived.Laws.CopyOwn
open Go.Proofs.Tryz
open Go.Value renaming int->aa,slice->ah,string->ai,pointer->aj,bool->aq,agg->ar
open Go.IntKind renaming i64->ag
open Go.RowKit renaming Below->au
open Go renaming World->aw,Aside->ax,Calls->ay,Value->az
open _root_ renaming ByteArray->aA,List->aB,UInt8->aD,Nat->aE,Int->aF
open Bool renaming false->aH,true->aI
open Go.Obj renaming cells->aM
open Option renaming none->aN,some->aO
open Go.Proofs.Tryz renaming prog->aP
set_option linter.all false
set_option maxHeartbeats 8000000
set_option maxRecDepth 100000
namespace Go.Proofs.YtjnkfelecopbjaaGreatDoor
open Go.RowKit PM Go.Sort
variable{aS c g:aE}{w:aw}{xs:aB aD}
section
variable {aS:aE}{W:aw}{B:aE}{s:Sy}{L:ja}
theorem Qe(h:cW aS W B s L)(cn cm:aF)(cp ct cx:aA)(ca:Bool)(ow k j:aE)(op:qI)(f:Fl)(how:ow<4)(hk:k<8)(hl:s.ia (ow*8+k) j op f)(iL:s.bh.length<1000000)(tI:s.bJ.length<1000000)(Ka:f.b9.length<=1000):ay aP 29 #[aj (aO B),ar #[aa ag 14,aa ag ow,aa ag k,aa ag cn,aa ag cm,ai cp,ai ct,ai cx,aq ca]] W (ic aS B (if(fK aH f.b9 ⟨ow,cn,cm,ca⟩).1=0 then s.dQ op.cM { f with b9:=(fK aH f.b9 ⟨ow,cn,cm,ca⟩).2 }else s) (if(fK aH f.b9 ⟨ow,cn,cm,ca⟩).1=0 then gz 0 ⟨#[]⟩else km (fK aH f.b9 ⟨ow,cn,cm,ca⟩).1) L W):=by
 have HS:ax (gL aS B s L W ⟨14,ow,k,cn,cm,cp,ct,cx,ca⟩ _):=gL.start h _;have HL:ax (s.ia (ow*8+k) j op f):=hl;generalize hR:ic aS B _ _ L W=R;have HR:ax (_=R):=hR;clear hR h hl;go_enter func29,ntmps29;go_upto_region 0 with fail
 go_cut [3,4]from 3 to 4 (fun s3 s4 w=>s3=aj (aO W)/\s4=aj (aO ⟨↑W+1,0,aN⟩)/\ax (gL aS B s L W ⟨14,ow,k,cn,cm,cp,ct,cx,ca⟩ w))
 case first=>
  go_wp2_with fail;go_meet
  case rel=>exact⟨rfl,rfl,HS.out⟩
 obtain⟨rfl,rfl,HO⟩:=hcut;clear HS;obtain⟨⟨k0,k1,k2,k3,k4,k5,k6,k7,k8⟩,kl⟩:=HO.cells;obtain⟨L1,h1,lj⟩:=HO.ex;obtain⟨g,cd,lN,lg,d0,d1,d2,fz⟩:=h1.desc HL.gX;have c4:=h1.cells.2.2.2.2;rw[lN]at c4;have vB:=h1.fd (k:=ow*8+k) (by omega);rw[mI HL.l6,<- dh 5]at vB;have hj:j<s.bJ.length:=(aQ.1 HL.gX).1;obtain⟨no,hno⟩:∃ n,n=s.bJ.length:=⟨_,rfl⟩
 rw[<- hno]at c4 hj tI;have O6:(j:aF)<(no:aF):=by omega
 have UA:(ow:aF)<4:=by omega
 have He:(k:aF)<8:=by omega
 have g1:decide ((k:aF)<0)=aH:=bD (by omega);have g2:decide (7<(k:aF))=aH:=bD (by omega);have g3:decide ((j:aF)<0)=aH:=bD (by omega);have lz:=fun Y (hY:au wc.heap.size wc Y)=>kN (h1.bB hY) op.cM f HL.hfl iL
 have iy:ax (cW aS wc B s L1/\((∀ b,gV B L1 b->gV B L b\/W.heap.size<=b)/\L1.ex=fun b=>b=W.heap.size+1\/L.ex b)/\L1.vd=ah (aO g) no cd/\no=s.bJ.length):=⟨h1,lj,by rw[hno];exact lN,hno⟩
 have lB:=h1.lt;clear h1 lj lN hno fz;go_wp2_with fail;go_quiet (fail);go_wp2_with fail;go_quiet (fail);go_upto_region 5 with fail
 go_cut [5,6,7]from 21 to 64 (fun s5 s6 s7 w=>s5=aa ag j/\s6=aj (aO ⟨g,j*3,aN⟩)/\s7=ai (s.cQ f)/\ax (au wc wc w))
 case first=>
  go_wp2_with (go_at_call 55;refine(lz _ (below_draws ⟨_,rfl⟩)).mono ?_;rintro r w4 ⟨rfl,eO⟩;have HB:ax (au wc wc w4):=Below.bK (below_draws ⟨_,rfl⟩) eO;clear eO);go_meet
  case rel=>exact⟨rfl,rfl,rfl,HB.out⟩
 obtain⟨rfl,rfl,rfl,HB⟩:=hcut;replace HO:ax (gL aS B s L W ⟨14,ow,k,cn,cm,cp,ct,cx,ca⟩ wc):=HO.pure HB.out;replace iy:ax (cW aS wc B s L1/\((∀ b,gV B L1 b->gV B L b\/W.heap.size<=b)/\L1.ex=fun b=>b=W.heap.size+1\/L.ex b)/\L1.vd=ah (aO g) no cd/\no=s.bJ.length):=⟨iy.1.bB HB.out,iy.2⟩
 clear k0 k1 k2 k3 k4 k5 k6 k7 k8 kl vB c4 d0 d1 d2 lz g1 g2 g3 lB lg HB;obtain⟨⟨k0,k1,k2,k3,k4,k5,k6,k7,k8⟩,kl⟩:=HO.cells;obtain⟨_,_,lN,lg,d0,d1,d2,fz⟩:=iy.1.desc HL.gX;obtain⟨rfl,rfl⟩:g=_/\cd=_:=by rw[iy.2.2.1]at lN;injection lN with e1 e2 e3;injection e1 with e1;injection e1 with e1;exact⟨e1,e3⟩
 clear lN;have lB:=iy.1.lt;obtain⟨go,co,x,Kb,_,Gq,_,_,p2,fzo,_,_,_,Ek,Ld,_⟩:=iy.1.obj HL.hfl;have c3:=iy.1.cells.2.2.2.1;rw[Kb]at c3;have hi:op.cM<s.bh.length:=(aQ.1 HL.hfl).1;obtain⟨nf,C7⟩:∃ n,n=s.bh.length:=⟨_,rfl⟩
 rw[<- C7]at c3 hi iL;have hiz:(op.cM:aF)<(nf:aF):=by omega
 have rF:=fun Y (hY:au wc.heap.size wc Y)=>LK.Dz aH f.b9 ⟨ow,cn,cm,ca⟩ (if ca then 2 else 1:aF) x.p x.c Y (Ek.bB hY) (by omega) Ld (by cases ca<;>rfl)
 have UU:ax (∀ (Y X:aw) (v:az) (er:aF) (m:aB LK.Lk),au wc wc Y->au Y.heap.size Y X->LK.Rows X Y.heap.size v m->LK.KM.nP aH f.b9 ⟨ow,cn,cm,ca⟩ er m->er=(fK aH f.b9 ⟨ow,cn,cm,ca⟩).1/\gL aS B (s.dQ op.cM { f with b9:=(fK aH f.b9 ⟨ow,cn,cm,ca⟩).2 }) L W ⟨14,ow,k,cn,cm,cp,ct,cx,ca⟩ (X.setCell ⟨go,op.cM*3+2,aN⟩ v)):=fun Y X v er m hY hX hr hs=>by obtain⟨e1,rfl⟩:=uh hs;exact⟨e1,((HO.pure hY).pure hX).step ⟨(iy.1.bB hY).bB hX,iy.2.1⟩ ((iy.1.bB hY).SV HL.hfl (by rw[Kb,<- C7]) hX hr).2⟩
 have HV:ax (L1.vo=ah (aO go) nf co):=by show _=_;rw[Kb,<- C7]
 obtain⟨hw,YG⟩:∃ hw:aF,hw=(if ca then 2 else 1:aF)  := ⟨_,rfl⟩
 rw[<- YG]at rF;have HW:ax (hw=(if ca then 2 else 1:aF)):=YG;generalize fK aH f.b9 ⟨ow,cn,cm,ca⟩=LR at UU HR;obtain⟨E,ml⟩:=LR;simp only at UU HR;generalize x.p=xp at rF p2;generalize x.c=xc at rF p2;generalize f.b9.length=fl at rF p2;clear Ek Kb C7 Ld YG;go_upto_if 279 with fail
 go_cut [12]from 277 to 281 (fun x w=>x=aa ag hw/\w=wc)
 case first=>
  cases ca;all_goals
   go_wp2_with fail;go_meet
   case rel=>exact⟨by first|(rw[HW.out];done)|(rw[HW.out];rfl),rfl⟩
 obtain⟨rfl,rfl⟩:=hcut;go_upto_region 59 with fail
 go_cut [13,14]from 282 to 306 (fun s13 Zp w=>∃ p n c,s13=ah p n c/\Zp=aa ag E/\ax (au wc wc w/\gL aS B (s.dQ op.cM { f with b9:=ml }) L W ⟨14,ow,k,cn,cm,cp,ct,cx,ca⟩ (w.setCell ⟨go,op.cM*3+2,aN⟩ (ah p n c))))
 case first=>
  have lC:W.heap.size<wc.heap.size:=by omega
  simp only at k1 k3 k4 k8;go_region_held3 (fun w'=>w'.cell? ⟨B,3,aN⟩=aO (ah (aO go) nf co)/\w'.cell? ⟨g,j*3,aN⟩=aO (aa ag op.cM)/\w'.cell? ⟨go,op.cM*3+2,aN⟩=aO (ah xp fl xc)/\w'.cell? ⟨W,1,aN⟩=aO (aa ag ow)/\w'.cell? ⟨W,3,aN⟩=aO (aa ag cn)/\w'.cell? ⟨W,4,aN⟩=aO (aa ag cm)/\w'.cell? ⟨W,8,aN⟩=aO (aq ca)) (go_keep) (first|(go_at_call 56;refine(rF _ (aR _ _).drew).mono ?_;clear rF;rintro r w3 ⟨v,er,m,rfl,hr,qt,eG⟩;obtain⟨pv,nv,cv,rfl⟩:=tv hr;obtain⟨rfl,hq⟩:=UU.out _ _ _ _ _ (aR _ _).drew eG hr qt;have HQ:ax _:=fB (Below.bK (aR _ _).drew eG) hq;clear hr eG qt hq;have y0:=(HQ.1.cell (p:=⟨B,3,aN⟩) lB).trans c3;have y1:=(HQ.1.cell (p:=⟨g,j*3,aN⟩) lg).trans d0;have y2:=(HQ.1.cell (p:=⟨go,op.cM*3+2,aN⟩) Gq).trans p2;have y3:=(HQ.1.cell (p:=⟨W,1,aN⟩) lC).trans k1;have y4:=(HQ.1.cell (p:=⟨W,3,aN⟩) lC).trans k3;have y5:=(HQ.1.cell (p:=⟨W,4,aN⟩) lC).trans k4;have y6:=(HQ.1.cell (p:=⟨W,8,aN⟩) lC).trans k8)|fail);all_goals
   go_wp2_with fail;go_meet
   case rel=>exact⟨pv,nv,cv,rfl,rfl,HQ.out⟩
 obtain⟨p,n,c,rfl,rfl,HQ⟩:=hcut;clear rF UU;replace HO:=show ax _ from HO.pure HQ.1
 have Cw:ax (cW aS wc B s L1):=iy.1.bB HQ.1;cases hz:(E != 0);rotate_left
 ·have mh:¬ E=0:=by simpa using hz
  go_wp2_with (go_at_call 27;refine(fP _ _).mono ?_;rintro r wb ⟨rfl,fR⟩;have HB:ax _:=HO.pure fR;obtain⟨⟨b0,b1,b2,b3⟩,z0,z1,z2,z3⟩:=cK HB.gz;clear fR);exact ba (v:=ar #[aa ag E,aa ag 0,ai ⟨#[]⟩,ah aN 0 0]) (by simp[results,results29,go_sem,b0,b1,b2,b3]) rfl (by rw[<- HR.out,aW mh,aW mh];exact HB.iT E 0 ⟨#[]⟩)
 have mh:E=0:=by simpa using hz
 have HZ:ax (E=0):=mh;clear mh k0 k1 k2 k3 k4 k5 k6 k7 k8 kl d0 d1 d2 p2 c3 lB lg Gq;obtain⟨go',co',x',Dc,_,Gq,_,_,p2,Iv,_⟩:=Cw.obj HL.hfl;obtain⟨g',X0,zi,lg,d0,d1,d2,_⟩:=Cw.desc HL.gX;obtain⟨rfl,rfl⟩:go=go'/\co=co':=by rw[HV.out]at Dc;injection Dc with e1 e2 e3;injection e1 with e1;injection e1 with e1;exact⟨e1,e3⟩
 obtain⟨rfl,rfl⟩:g=g'/\cd=X0:=by rw[iy.2.2.1]at zi;injection zi with e1 e2 e3;injection e1 with e1;injection e1 with e1;exact⟨e1,e3⟩
 have c3:=Cw.cells.2.2.2.1;rw[HV.out]at c3;have lB:=Cw.lt;have f2:=Iv (op.cM*3+2);clear Dc zi;have ng:go≠W.heap.size+1:=fun e=>Cw.other HO.gz (by decide) (by decide) (by decide) (.inr (.inl (by rw[HV.out,<- e];rfl)))
 have ng':W.heap.size+1≠go:=fun e=>ng e.symm
 obtain⟨⟨b0,b1,b2,b3⟩,z0,z1,z2,z3⟩:=cK HO.gz;go_wp2_with fail;go_region;all_goals
  go_wp2_with fail
 exact ba (v:=ar #[aa ag 0,aa ag 0,ai ⟨#[]⟩,ah aN 0 0]) (by simp[results,results29,go_sem,b0,b1,b2,b3]) rfl (by rw[<- HR.out,aY HZ.out,aY HZ.out];exact(HQ.2.pure (aR _ _).drew).iT 0 0 ⟨#[]⟩)
end
section
variable {aS:aE}{W:aw}{B:aE}{s:Sy}{L:ja}
theorem Qd(h:cW aS W B s L)(cn cm:aF)(cp ct cx:aA)(ca:Bool)(ow k j:aE)(op:qI)(f:Fl)(how:ow<4)(hk:k<8)(hl:s.ia (ow*8+k) j op f)(iL:s.bh.length<1000000)(tI:s.bJ.length<1000000)(Ka:f.b9.length<=1000):ay aP 29 #[aj (aO B),ar #[aa ag 15,aa ag ow,aa ag k,aa ag cn,aa ag cm,ai cp,ai ct,ai cx,aq ca]] W (ic aS B (if(fK aI f.b9 ⟨ow,cn,cm,ca⟩).1=0 then s.dQ op.cM { f with b9:=(fK aI f.b9 ⟨ow,cn,cm,ca⟩).2 }else s) (if(fK aI f.b9 ⟨ow,cn,cm,ca⟩).1=0 then gz 0 ⟨#[]⟩else km (fK aI f.b9 ⟨ow,cn,cm,ca⟩).1) L W):=by
 have HS:ax (gL aS B s L W ⟨15,ow,k,cn,cm,cp,ct,cx,ca⟩ _):=gL.start h _;have HL:ax (s.ia (ow*8+k) j op f):=hl;generalize hR:ic aS B _ _ L W=R;have HR:ax (_=R):=hR;clear hR h hl;go_enter func29,ntmps29;go_upto_region 0 with fail
 go_cut [3,4]from 3 to 4 (fun s3 s4 w=>s3=aj (aO W)/\s4=aj (aO ⟨↑W+1,0,aN⟩)/\ax (gL aS B s L W ⟨15,ow,k,cn,cm,cp,ct,cx,ca⟩ w))
 case first=>
  go_wp2_with fail;go_meet
  case rel=>exact⟨rfl,rfl,HS.out⟩
 obtain⟨rfl,rfl,HO⟩:=hcut;clear HS;obtain⟨⟨k0,k1,k2,k3,k4,k5,k6,k7,k8⟩,kl⟩:=HO.cells;obtain⟨L1,h1,lj⟩:=HO.ex;obtain⟨g,cd,lN,lg,d0,d1,d2,fz⟩:=h1.desc HL.gX;have c4:=h1.cells.2.2.2.2;rw[lN]at c4;have vB:=h1.fd (k:=ow*8+k) (by omega);rw[mI HL.l6,<- dh 5]at vB;have hj:j<s.bJ.length:=(aQ.1 HL.gX).1;obtain⟨no,hno⟩:∃ n,n=s.bJ.length:=⟨_,rfl⟩
 rw[<- hno]at c4 hj tI;have O6:(j:aF)<(no:aF):=by omega
 have UA:(ow:aF)<4:=by omega
 have He:(k:aF)<8:=by omega
 have g1:decide ((k:aF)<0)=aH:=bD (by omega);have g2:decide (7<(k:aF))=aH:=bD (by omega);have g3:decide ((j:aF)<0)=aH:=bD (by omega);have lz:=fun Y (hY:au wc.heap.size wc Y)=>kN (h1.bB hY) op.cM f HL.hfl iL
 have iy:ax (cW aS wc B s L1/\((∀ b,gV B L1 b->gV B L b\/W.heap.size<=b)/\L1.ex=fun b=>b=W.heap.size+1\/L.ex b)/\L1.vd=ah (aO g) no cd/\no=s.bJ.length):=⟨h1,lj,by rw[hno];exact lN,hno⟩
 have lB:=h1.lt;clear h1 lj lN hno fz;go_wp2_with fail;go_quiet (fail);go_wp2_with fail;go_quiet (fail);go_upto_region 5 with fail
 go_cut [5,6,7]from 21 to 64 (fun s5 s6 s7 w=>s5=aa ag j/\s6=aj (aO ⟨g,j*3,aN⟩)/\s7=ai (s.cQ f)/\ax (au wc wc w))
 case first=>
  go_wp2_with (go_at_call 55;refine(lz _ (below_draws ⟨_,rfl⟩)).mono ?_;rintro r w4 ⟨rfl,eO⟩;have HB:ax (au wc wc w4):=Below.bK (below_draws ⟨_,rfl⟩) eO;clear eO);go_meet
  case rel=>exact⟨rfl,rfl,rfl,HB.out⟩
 obtain⟨rfl,rfl,rfl,HB⟩:=hcut;replace HO:ax (gL aS B s L W ⟨15,ow,k,cn,cm,cp,ct,cx,ca⟩ wc):=HO.pure HB.out;replace iy:ax (cW aS wc B s L1/\((∀ b,gV B L1 b->gV B L b\/W.heap.size<=b)/\L1.ex=fun b=>b=W.heap.size+1\/L.ex b)/\L1.vd=ah (aO g) no cd/\no=s.bJ.length):=⟨iy.1.bB HB.out,iy.2⟩
 clear k0 k1 k2 k3 k4 k5 k6 k7 k8 kl vB c4 d0 d1 d2 lz g1 g2 g3 lB lg HB;obtain⟨⟨k0,k1,k2,k3,k4,k5,k6,k7,k8⟩,kl⟩:=HO.cells;obtain⟨_,_,lN,lg,d0,d1,d2,fz⟩:=iy.1.desc HL.gX;obtain⟨rfl,rfl⟩:g=_/\cd=_:=by rw[iy.2.2.1]at lN;injection lN with e1 e2 e3;injection e1 with e1;injection e1 with e1;exact⟨e1,e3⟩
 clear lN;have lB:=iy.1.lt;obtain⟨go,co,x,Kb,_,Gq,_,_,p2,fzo,_,_,_,Ek,Ld,_⟩:=iy.1.obj HL.hfl;have c3:=iy.1.cells.2.2.2.1;rw[Kb]at c3;have hi:op.cM<s.bh.length:=(aQ.1 HL.hfl).1;obtain⟨nf,C7⟩:∃ n,n=s.bh.length:=⟨_,rfl⟩
 rw[<- C7]at c3 hi iL;have hiz:(op.cM:aF)<(nf:aF):=by omega
 have rF:=fun Y (hY:au wc.heap.size wc Y)=>LK.Dz aI f.b9 ⟨ow,cn,cm,ca⟩ (0:aF) x.p x.c Y (Ek.bB hY) (by omega) Ld (by rfl)
 have UU:ax (∀ (Y X:aw) (v:az) (er:aF) (m:aB LK.Lk),au wc wc Y->au Y.heap.size Y X->LK.Rows X Y.heap.size v m->LK.KM.nP aI f.b9 ⟨ow,cn,cm,ca⟩ er m->er=(fK aI f.b9 ⟨ow,cn,cm,ca⟩).1/\gL aS B (s.dQ op.cM { f with b9:=(fK aI f.b9 ⟨ow,cn,cm,ca⟩).2 }) L W ⟨15,ow,k,cn,cm,cp,ct,cx,ca⟩ (X.setCell ⟨go,op.cM*3+2,aN⟩ v)):=fun Y X v er m hY hX hr hs=>by obtain⟨e1,rfl⟩:=uh hs;exact⟨e1,((HO.pure hY).pure hX).step ⟨(iy.1.bB hY).bB hX,iy.2.1⟩ ((iy.1.bB hY).SV HL.hfl (by rw[Kb,<- C7]) hX hr).2⟩
 have HV:ax (L1.vo=ah (aO go) nf co):=by show _=_;rw[Kb,<- C7]
 obtain⟨hw,YG⟩:∃ hw:aF,hw=(0:aF)  := ⟨_,rfl⟩
 rw[<- YG]at rF;have HW:ax (hw=(0:aF)):=YG;generalize fK aI f.b9 ⟨ow,cn,cm,ca⟩=LR at UU HR;obtain⟨E,ml⟩:=LR;simp only at UU HR;generalize x.p=xp at rF p2;generalize x.c=xc at rF p2;generalize f.b9.length=fl at rF p2;clear Ek Kb C7 Ld YG;go_upto_if 279 with fail
 go_cut [12]from 277 to 281 (fun x w=>x=aa ag hw/\w=wc)
 case first=>
  all_goals
   go_wp2_with fail;go_meet
   case rel=>exact⟨by first|(rw[HW.out];done)|(rw[HW.out];rfl),rfl⟩
 obtain⟨rfl,rfl⟩:=hcut;go_upto_region 59 with fail
 go_cut [13,14]from 282 to 306 (fun s13 Zp w=>∃ p n c,s13=ah p n c/\Zp=aa ag E/\ax (au wc wc w/\gL aS B (s.dQ op.cM { f with b9:=ml }) L W ⟨15,ow,k,cn,cm,cp,ct,cx,ca⟩ (w.setCell ⟨go,op.cM*3+2,aN⟩ (ah p n c))))
 case first=>
  have lC:W.heap.size<wc.heap.size:=by omega
  simp only at k1 k3 k4 k8;go_region_held3 (fun w'=>w'.cell? ⟨B,3,aN⟩=aO (ah (aO go) nf co)/\w'.cell? ⟨g,j*3,aN⟩=aO (aa ag op.cM)/\w'.cell? ⟨go,op.cM*3+2,aN⟩=aO (ah xp fl xc)/\w'.cell? ⟨W,1,aN⟩=aO (aa ag ow)/\w'.cell? ⟨W,3,aN⟩=aO (aa ag cn)/\w'.cell? ⟨W,4,aN⟩=aO (aa ag cm)/\w'.cell? ⟨W,8,aN⟩=aO (aq ca)) (go_keep) (first|(go_at_call 56;refine(rF _ (aR _ _).drew).mono ?_;clear rF;rintro r w3 ⟨v,er,m,rfl,hr,qt,eG⟩;obtain⟨pv,nv,cv,rfl⟩:=tv hr;obtain⟨rfl,hq⟩:=UU.out _ _ _ _ _ (aR _ _).drew eG hr qt;have HQ:ax _:=fB (Below.bK (aR _ _).drew eG) hq;clear hr eG qt hq;have y0:=(HQ.1.cell (p:=⟨B,3,aN⟩) lB).trans c3;have y1:=(HQ.1.cell (p:=⟨g,j*3,aN⟩) lg).trans d0;have y2:=(HQ.1.cell (p:=⟨go,op.cM*3+2,aN⟩) Gq).trans p2;have y3:=(HQ.1.cell (p:=⟨W,1,aN⟩) lC).trans k1;have y4:=(HQ.1.cell (p:=⟨W,3,aN⟩) lC).trans k3;have y5:=(HQ.1.cell (p:=⟨W,4,aN⟩) lC).trans k4;have y6:=(HQ.1.cell (p:=⟨W,8,aN⟩) lC).trans k8)|fail);all_goals
   go_wp2_with fail;go_meet
   case rel=>exact⟨pv,nv,cv,rfl,rfl,HQ.out⟩
 obtain⟨p,n,c,rfl,rfl,HQ⟩:=hcut;clear rF UU;replace HO:=show ax _ from HO.pure HQ.1
 have Cw:ax (cW aS wc B s L1):=iy.1.bB HQ.1;cases hz:(E != 0);rotate_left
 ·have mh:¬ E=0:=by simpa using hz
  go_wp2_with (go_at_call 27;refine(fP _ _).mono ?_;rintro r wb ⟨rfl,fR⟩;have HB:ax _:=HO.pure fR;obtain⟨⟨b0,b1,b2,b3⟩,z0,z1,z2,z3⟩:=cK HB.gz;clear fR);exact ba (v:=ar #[aa ag E,aa ag 0,ai ⟨#[]⟩,ah aN 0 0]) (by simp[results,results29,go_sem,b0,b1,b2,b3]) rfl (by rw[<- HR.out,aW mh,aW mh];exact HB.iT E 0 ⟨#[]⟩)
 have mh:E=0:=by simpa using hz
 have HZ:ax (E=0):=mh;clear mh k0 k1 k2 k3 k4 k5 k6 k7 k8 kl d0 d1 d2 p2 c3 lB lg Gq;obtain⟨go',co',x',Dc,_,Gq,_,_,p2,Iv,_⟩:=Cw.obj HL.hfl;obtain⟨g',X0,zi,lg,d0,d1,d2,_⟩:=Cw.desc HL.gX;obtain⟨rfl,rfl⟩:go=go'/\co=co':=by rw[HV.out]at Dc;injection Dc with e1 e2 e3;injection e1 with e1;injection e1 with e1;exact⟨e1,e3⟩
 obtain⟨rfl,rfl⟩:g=g'/\cd=X0:=by rw[iy.2.2.1]at zi;injection zi with e1 e2 e3;injection e1 with e1;injection e1 with e1;exact⟨e1,e3⟩
 have c3:=Cw.cells.2.2.2.1;rw[HV.out]at c3;have lB:=Cw.lt;have f2:=Iv (op.cM*3+2);clear Dc zi;have ng:go≠W.heap.size+1:=fun e=>Cw.other HO.gz (by decide) (by decide) (by decide) (.inr (.inl (by rw[HV.out,<- e];rfl)))
 have ng':W.heap.size+1≠go:=fun e=>ng e.symm
 obtain⟨⟨b0,b1,b2,b3⟩,z0,z1,z2,z3⟩:=cK HO.gz;go_wp2_with fail;go_region;all_goals
  go_wp2_with fail
 exact ba (v:=ar #[aa ag 0,aa ag 0,ai ⟨#[]⟩,ah aN 0 0]) (by simp[results,results29,go_sem,b0,b1,b2,b3]) rfl (by rw[<- HR.out,aY HZ.out,aY HZ.out];exact(HQ.2.pure (aR _ _).drew).iT 0 0 ⟨#[]⟩)
end
section
variable {aS:aE}{W:aw}{B:aE}{s:Sy}{L:ja}
theorem Ro(t:aA)(a:aE):t.extract a a=⟨#[]⟩:=fV (by simp)
theorem Ts(t:aA)(P q N:aE)(h1:P<=q)(h2:q<=P+N)(h3:q=P\/q<=t.size)(h4:q=P+N\/t.size<=q):mP t P N=t.extract P q:=by
 unfold mP;rw[ByteArray.extract_extract];apply fV;simp only[BF,D7,fc];apply dz;intro i;simp only[pX,dm,fN];have hs:t.data.toList.length=t.size:=by simp
 by_cases hi:i<q-P
 ·rw[aY hi,aY (by omega)]
  congr 1;omega
 ·rw[aW hi]
  split
  ·exact Cx (by omega)
  ·rfl
theorem Qf(h:cW aS W B s L)(cn cm:aF)(cp ct cx:aA)(ca:Bool)(ow k j:aE)(op:qI)(f:Fl)(how:ow<4)(hk:k<8)(hl:s.ia (ow*8+k) j op f)(iL:s.bh.length<1000000)(tI:s.bJ.length<1000000)(YV:0<=op.pos/\op.pos<=1000)(lz:(s.cQ f).size<=100):ay aP 29 #[aj (aO B),ar #[aa ag 3,aa ag ow,aa ag k,aa ag cn,aa ag cm,ai cp,ai ct,ai cx,aq ca]] W (ic aS B (if ss op cn=0 then s.jw j { op with pos:=op.pos+(mP (s.cQ f) op.pos cn).size }else s) (if ss op cn=0 then gz (mP (s.cQ f) op.pos cn).size (mP (s.cQ f) op.pos cn)else km (ss op cn)) L W):=by
 have HS:ax (gL aS B s L W ⟨3,ow,k,cn,cm,cp,ct,cx,ca⟩ _):=gL.start h _;have HL:ax (s.ia (ow*8+k) j op f):=hl;generalize hR:ic aS B _ _ L W=R;have HR:ax (_=R):=hR;clear hR h hl;go_enter func29,ntmps29;go_upto_region 0 with fail
 go_cut [3,4]from 3 to 4 (fun s3 s4 w=>s3=aj (aO W)/\s4=aj (aO ⟨↑W+1,0,aN⟩)/\ax (gL aS B s L W ⟨3,ow,k,cn,cm,cp,ct,cx,ca⟩ w))
 case first=>
  go_wp2_with fail;go_meet
  case rel=>exact⟨rfl,rfl,HS.out⟩
 obtain⟨rfl,rfl,HO⟩:=hcut;clear HS;obtain⟨⟨k0,k1,k2,k3,k4,k5,k6,k7,k8⟩,kl⟩:=HO.cells;obtain⟨L1,h1,lj⟩:=HO.ex;obtain⟨g,cd,lN,lg,d0,d1,d2,fz⟩:=h1.desc HL.gX;have c4:=h1.cells.2.2.2.2;rw[lN]at c4;have vB:=h1.fd (k:=ow*8+k) (by omega);rw[mI HL.l6,<- dh 5]at vB;have hj:j<s.bJ.length:=(aQ.1 HL.gX).1;obtain⟨no,hno⟩:∃ n,n=s.bJ.length:=⟨_,rfl⟩
 rw[<- hno]at c4 hj tI;have O6:(j:aF)<(no:aF):=by omega
 have UA:(ow:aF)<4:=by omega
 have He:(k:aF)<8:=by omega
 have g1:decide ((k:aF)<0)=aH:=bD (by omega);have g2:decide (7<(k:aF))=aH:=bD (by omega);have g3:decide ((j:aF)<0)=aH:=bD (by omega);have lz:=fun Y (hY:au wc.heap.size wc Y)=>kN (h1.bB hY) op.cM f HL.hfl iL
 have iy:ax (cW aS wc B s L1/\((∀ b,gV B L1 b->gV B L b\/W.heap.size<=b)/\L1.ex=fun b=>b=W.heap.size+1\/L.ex b)/\L1.vd=ah (aO g) no cd/\no=s.bJ.length):=⟨h1,lj,by rw[hno];exact lN,hno⟩
 have lB:=h1.lt;clear h1 lj lN hno fz;go_wp2_with fail;go_quiet (fail);go_wp2_with fail;go_quiet (fail);go_upto_region 5 with fail
 go_cut [5,6,7]from 21 to 64 (fun s5 s6 s7 w=>s5=aa ag j/\s6=aj (aO ⟨g,j*3,aN⟩)/\s7=ai (s.cQ f)/\ax (au wc wc w))
 case first=>
  go_wp2_with (go_at_call 55;refine(lz _ (below_draws ⟨_,rfl⟩)).mono ?_;rintro r w4 ⟨rfl,eO⟩;have HB:ax (au wc wc w4):=Below.bK (below_draws ⟨_,rfl⟩) eO;clear eO);go_meet
  case rel=>exact⟨rfl,rfl,rfl,HB.out⟩
 obtain⟨rfl,rfl,rfl,HB⟩:=hcut;replace HO:ax (gL aS B s L W ⟨3,ow,k,cn,cm,cp,ct,cx,ca⟩ wc):=HO.pure HB.out;replace iy:ax (cW aS wc B s L1/\((∀ b,gV B L1 b->gV B L b\/W.heap.size<=b)/\L1.ex=fun b=>b=W.heap.size+1\/L.ex b)/\L1.vd=ah (aO g) no cd/\no=s.bJ.length):=⟨iy.1.bB HB.out,iy.2⟩
 clear k0 k1 k2 k3 k4 k5 k6 k7 k8 kl vB c4 d0 d1 d2 lz g1 g2 g3 lB lg HB;obtain⟨⟨k0,k1,k2,k3,k4,k5,k6,k7,k8⟩,kl⟩:=HO.cells;obtain⟨_,_,lN,lg,d0,d1,d2,fz⟩:=iy.1.desc HL.gX;obtain⟨rfl,rfl⟩:g=_/\cd=_:=by rw[iy.2.2.1]at lN;injection lN with e1 e2 e3;injection e1 with e1;injection e1 with e1;exact⟨e1,e3⟩
 clear lN;have lB:=iy.1.lt;obtain⟨P,hP⟩:∃ P:aE,op.pos=P:=⟨op.pos.toNat,by omega⟩
 have zL:ax (ss op cn=if(bits BinOp.and IntKind.i64 op.use 1 == 0)=aI then 8 else if cn<0\/1000<cn then 3 else 0):=rfl;have HP:ax (op.pos=P/\P<=1000):=⟨hP,by omega⟩
 rw[hP]at d2;have uY:ax (∀ n:aE,gL aS B (s.jw j { op with pos:=n }) L W ⟨3,ow,k,cn,cm,cp,ct,cx,ca⟩ (wc.setCell ⟨g,j*3+2,aN⟩ (aa ag n))):=fun n=>HO.step ⟨iy.1,iy.2.1⟩ (iy.1.Zk HL.gX (by rw[iy.2.2.1,iy.2.2.2]) n)
 have Uf:ax (op.pos=P->mP (s.cQ f) op.pos cn=mP (s.cQ f) P cn):=fun e=>by rw[e]
 generalize s.cQ f=t at lz HR Uf;generalize ss op cn=re at zL HR;have f2:=fz (j*3+2);have ng:g≠W.heap.size+1:=fun e=>iy.1.other HO.gz (by decide) (by decide) (by decide) (.inr (.inr (by rw[iy.2.2.1,<- e];rfl)))
 have ng':W.heap.size+1≠g:=fun e=>ng e.symm
 obtain⟨⟨b0,b1,b2,b3⟩,z0,z1,z2,z3⟩:=cK HO.gz;clear hP YV fz;cases hu:(bits BinOp.and IntKind.i64 op.use 1 == 0);rotate_left
 ·clear b0 b1 b2 b3 z0 z1 z2 z3
  go_wp2_with (go_at_call 27;refine(fP _ _).mono ?_;rintro r wb ⟨rfl,fR⟩;have HB:ax _:=HO.pure fR;obtain⟨⟨b0,b1,b2,b3⟩,z0,z1,z2,z3⟩:=cK HB.gz;clear fR);exact ba (v:=ar #[aa ag 8,aa ag 0,ai ⟨#[]⟩,ah aN 0 0]) (by simp[results,results29,go_sem,b0,b1,b2,b3]) rfl (by rw[<- HR.out,show re=8 from zL.trans (aY hu),aW (by decide),aW (by decide)];exact HB.iT 8 0 ⟨#[]⟩)
 rw[hu,aW (by decide)]at zL;have hcs:cn<0\/1000<cn\/¬ cn<0/\¬ 1000<cn:=by omega
 rcases hcs with e|e|⟨e,e2⟩
 ·have e3:decide (cn<0)=aI:=dJ e
  clear b0 b1 b2 b3 z0 z1 z2 z3;go_wp2_with (go_at_call 27;refine(fP _ _).mono ?_;rintro r wb ⟨rfl,fR⟩;have HB:ax _:=HO.pure fR;obtain⟨⟨b0,b1,b2,b3⟩,z0,z1,z2,z3⟩:=cK HB.gz;clear fR);exact ba (v:=ar #[aa ag 3,aa ag 0,ai ⟨#[]⟩,ah aN 0 0]) (by simp[results,results29,go_sem,b0,b1,b2,b3]) rfl (by rw[<- HR.out,show re=3 from zL.trans (aY (.inl e)),aW (by decide),aW (by decide)];exact HB.iT 3 0 ⟨#[]⟩)
 ·have e3:decide (cn<0)=aH:=bD (by omega)
  have e4:decide (1000<cn)=aI:=dJ e;clear b0 b1 b2 b3 z0 z1 z2 z3;go_wp2_with (go_at_call 27;refine(fP _ _).mono ?_;rintro r wb ⟨rfl,fR⟩;have HB:ax _:=HO.pure fR;obtain⟨⟨b0,b1,b2,b3⟩,z0,z1,z2,z3⟩:=cK HB.gz;clear fR);exact ba (v:=ar #[aa ag 3,aa ag 0,ai ⟨#[]⟩,ah aN 0 0]) (by simp[results,results29,go_sem,b0,b1,b2,b3]) rfl (by rw[<- HR.out,show re=3 from zL.trans (aY (.inr e)),aW (by decide),aW (by decide)];exact HB.iT 3 0 ⟨#[]⟩)
 ·have e3:decide (cn<0)=aH:=bD e
  have e4:decide (1000<cn)=aH:=bD e2;obtain⟨N,rfl⟩:∃ N:aE,cn=N:=⟨cn.toNat,by omega⟩
  rw[aW (by omega)]at zL;have hN:N<=1000:=by omega
  have hP:=HP.2;clear e e2;go_wp2_with fail;go_loopg [15,16] N (fun gg s15 s16 wr=>∃ q:aE,P<=q/\q<=P+N/\P+N-q<=gg/\s16=aa ag q/\s15=ai (t.extract P q)/\(q=P\/q<=t.size)/\ax (∃ n,wr=wc.drewN n))
  case atStart=>exact⟨P,aV _,by omega,by omega,rfl,by rw[Ro],.inl rfl,0,rfl⟩
  case round=>
   obtain⟨q,hq1,UC,oP,rfl,rfl,hor,HI⟩:=hrel;obtain⟨nn,rfl⟩:=HI.out;have hh:q<P+N/\q<t.size\/q<P+N/\¬ q<t.size\/¬ q<P+N:=by omega
   rcases hh with⟨h1,h2⟩|⟨h1,h2⟩|h1;all_goals first|have y1:decide ((q:aF)<(P:aF)+(N:aF))=aH:=bD (by omega)|have y1:decide ((q:aF)<(P:aF)+(N:aF))=aI:=dJ (by omega)
   all_goals first|have y2:decide ((q:aF)<(t.size:aF))=aH:=bD (by omega)|have y2:decide ((q:aF)<(t.size:aF))=aI:=dJ (by omega)|skip
   ·have pj:(9223372036854775807<(t.extract P q).size+(t.extract q (q+1)).size)=False:=by simp;omega
    have hqz:(q:aF)<(t.size:aF):=by omega
    go_wp2_with fail;go_quiet (fail);go_wp2_with fail;go_roundg (P+N-(q+1))
    case measure=>omega
    case rel=>exact⟨q+1,by omega,by omega,by omega,by go_num,rfl,.inr (by omega),_,rfl⟩
   all_goals
    have HU:ax (mP t op.pos N=t.extract P q):=by show _=_;rw[HP.1];exact Ts t P q N hq1 UC hor (by omega)
    have SC:(t.extract P q).size<=100:=by simp;omega
    generalize t.extract P q=u at HU SC ⊢;go_wp2_with fail;go_quiet (fail);go_wp2_with fail;exact ba (v:=ar #[aa ag 0,aa ag u.size,ai u,ah aN 0 0]) (by simp[results,results29,go_sem,b0,b1,b2,b3]) rfl (by rw[<- HR.out,aY zL.out,aY zL.out,HU.out,HP.1];exact((uY.out (P+u.size)).pure (below_draws ⟨_,rfl⟩)).iT 0 u.size u)
end
section
variable {aS:aE}{W:aw}{B:aE}{s:Sy}{L:ja}
theorem MM(h:cW aS W B s L)(cn cm:aF)(cp ct cx:aA)(ca:Bool)(ow k j:aE)(op:qI)(f:Fl)(how:ow<4)(hk:k<8)(hl:s.ia (ow*8+k) j op f)(iL:s.bh.length<1000000)(tI:s.bJ.length<1000000)(Ka:f.b9.length<=1000):ay aP 29 #[aj (aO B),ar #[aa ag 2,aa ag ow,aa ag k,aa ag cn,aa ag cm,ai cp,ai ct,ai cx,aq ca]] W (ic aS B (if op.cM∈((s.dL (ow*8+k) aN).dQ op.cM { f with b9:=LK.KM.fu f.b9 ow }).cr then((s.dL (ow*8+k) aN).dQ op.cM { f with b9:=LK.KM.fu f.b9 ow })else((s.dL (ow*8+k) aN).dQ op.cM { f with b9:=LK.KM.fu f.b9 ow }).dQ op.cM oU) (gz 0 ⟨#[]⟩) L W):=by
 have HS:ax (gL aS B s L W ⟨2,ow,k,cn,cm,cp,ct,cx,ca⟩ _):=gL.start h _;have HL:ax (s.ia (ow*8+k) j op f):=hl;generalize hR:ic aS B _ _ L W=R;have HR:ax (_=R):=hR;clear hR h hl;go_enter func29,ntmps29;go_upto_region 0 with fail
 go_cut [3,4]from 3 to 4 (fun s3 s4 w=>s3=aj (aO W)/\s4=aj (aO ⟨↑W+1,0,aN⟩)/\ax (gL aS B s L W ⟨2,ow,k,cn,cm,cp,ct,cx,ca⟩ w))
 case first=>
  go_wp2_with fail;go_meet
  case rel=>exact⟨rfl,rfl,HS.out⟩
 obtain⟨rfl,rfl,HO⟩:=hcut;clear HS;obtain⟨⟨k0,k1,k2,k3,k4,k5,k6,k7,k8⟩,kl⟩:=HO.cells;obtain⟨L1,h1,lj⟩:=HO.ex;obtain⟨g,cd,lN,lg,d0,d1,d2,fz⟩:=h1.desc HL.gX;have c4:=h1.cells.2.2.2.2;rw[lN]at c4;have vB:=h1.fd (k:=ow*8+k) (by omega);rw[mI HL.l6,<- dh 5]at vB;have hj:j<s.bJ.length:=(aQ.1 HL.gX).1;obtain⟨no,hno⟩:∃ n,n=s.bJ.length:=⟨_,rfl⟩
 rw[<- hno]at c4 hj tI;have O6:(j:aF)<(no:aF):=by omega
 have UA:(ow:aF)<4:=by omega
 have He:(k:aF)<8:=by omega
 have g1:decide ((k:aF)<0)=aH:=bD (by omega);have g2:decide (7<(k:aF))=aH:=bD (by omega);have g3:decide ((j:aF)<0)=aH:=bD (by omega);have lz:=fun Y (hY:au wc.heap.size wc Y)=>kN (h1.bB hY) op.cM f HL.hfl iL
 have iy:ax (cW aS wc B s L1/\((∀ b,gV B L1 b->gV B L b\/W.heap.size<=b)/\L1.ex=fun b=>b=W.heap.size+1\/L.ex b)/\L1.vd=ah (aO g) no cd/\no=s.bJ.length):=⟨h1,lj,by rw[hno];exact lN,hno⟩
 have lB:=h1.lt;clear h1 lj lN hno fz;go_wp2_with fail;go_quiet (fail);go_wp2_with fail;go_quiet (fail);go_upto_region 5 with fail
 go_cut [5,6,7]from 21 to 64 (fun s5 s6 s7 w=>s5=aa ag j/\s6=aj (aO ⟨g,j*3,aN⟩)/\s7=ai (s.cQ f)/\ax (au wc wc w))
 case first=>
  go_wp2_with (go_at_call 55;refine(lz _ (below_draws ⟨_,rfl⟩)).mono ?_;rintro r w4 ⟨rfl,eO⟩;have HB:ax (au wc wc w4):=Below.bK (below_draws ⟨_,rfl⟩) eO;clear eO);go_meet
  case rel=>exact⟨rfl,rfl,rfl,HB.out⟩
 obtain⟨rfl,rfl,rfl,HB⟩:=hcut;replace HO:ax (gL aS B s L W ⟨2,ow,k,cn,cm,cp,ct,cx,ca⟩ wc):=HO.pure HB.out;replace iy:ax (cW aS wc B s L1/\((∀ b,gV B L1 b->gV B L b\/W.heap.size<=b)/\L1.ex=fun b=>b=W.heap.size+1\/L.ex b)/\L1.vd=ah (aO g) no cd/\no=s.bJ.length):=⟨iy.1.bB HB.out,iy.2⟩
 clear k0 k1 k2 k3 k4 k5 k6 k7 k8 kl vB c4 d0 d1 d2 lz g1 g2 g3 lB lg HB;obtain⟨⟨k0,k1,k2,k3,k4,k5,k6,k7,k8⟩,kl⟩:=HO.cells;obtain⟨_,_,lN,lg,d0,d1,d2,fz⟩:=iy.1.desc HL.gX;obtain⟨rfl,rfl⟩:g=_/\cd=_:=by rw[iy.2.2.1]at lN;injection lN with e1 e2 e3;injection e1 with e1;injection e1 with e1;exact⟨e1,e3⟩
 clear lN;have lB:=iy.1.lt;have vB:=iy.1.fd (k:=ow*8+k) (by omega);rw[mI HL.l6,<- dh 5]at vB;have ffd:=iy.1.EW (5+ow*8+k);have HA:ax (cW aS (wc.setCell ⟨B,5+ow*8+k,aN⟩ (aa ag (-1))) B (s.dL (ow*8+k) aN) L1/\gL aS B (s.dL (ow*8+k) aN) L W ⟨2,ow,k,cn,cm,cp,ct,cx,ca⟩ (wc.setCell ⟨B,5+ow*8+k,aN⟩ (aa ag (-1)))):=by rw[dh 5];exact⟨(iy.1.dL (k:=ow*8+k) (j:=aN) (v:=-1) (by omega) rfl nofun).1,HO.step ⟨iy.1,iy.2.1⟩ (iy.1.TN (k:=ow*8+k) (j:=aN) (v:=-1) (by omega) rfl nofun)⟩
 go_upto_region 31 with fail
 go_cut []from 175 to 183 (fun w=>ax (cW aS w B (s.dL (ow*8+k) aN) L1/\gL aS B (s.dL (ow*8+k) aN) L W ⟨2,ow,k,cn,cm,cp,ct,cx,ca⟩ w))
 case first=>
  go_region;all_goals
   go_wp2_with fail;go_meet
   case rel=>exact⟨HA.1.bB (aR _ _).drew,HA.2.pure (aR _ _).drew⟩
 clear HA vB ffd k0 k1 k2 k3 k4 k5 k6 k7 k8 kl d0 d1 d2 fz lg lB HO;have HO:ax _:=hcut.2;have HK:ax _:=hcut.1;obtain⟨⟨k0,k1,k2,k3,k4,k5,k6,k7,k8⟩,kl⟩:=HO.cells;obtain⟨g',X0,zi,lg,d0,_,_,_⟩:=HK.desc HL.gX;obtain⟨rfl,rfl⟩:g=g'/\cd=X0:=by rw[iy.2.2.1]at zi;injection zi with e1 e2 e3;injection e1 with e1;injection e1 with e1;exact⟨e1,e3⟩
 obtain⟨go,co,x,Kb,_,Gq,_,_,p2,fzo,_,_,_,Ek,Ld,_⟩:=HK.obj HL.hfl;have c3:=HK.cells.2.2.2.1;rw[Kb]at c3;have hi:op.cM<(s.dL (ow*8+k) aN).bh.length:=(aQ.1 HL.hfl).1;have yb:(s.dL (ow*8+k) aN).bh.length<1000000:=iL;obtain⟨nf,C7⟩:∃ n,n=(s.dL (ow*8+k) aN).bh.length:=⟨_,rfl⟩
 rw[<- C7]at c3 hi yb;have hiz:(op.cM:aF)<(nf:aF):=by omega
 have lB:=HK.lt;have HV:ax (L1.vo=ah (aO go) (s.dL (ow*8+k) aN).bh.length co/\nf=(s.dL (ow*8+k) aN).bh.length):=⟨Kb,C7⟩
 have HLy:ax (LK.bI wc x.p f.b9):=Ek;obtain⟨fl,hfl⟩:∃ n,n=f.b9.length:=⟨_,rfl⟩
 have Zy:ax (fl=f.b9.length):=hfl;rw[<- hfl]at p2 Ka;have U0:ax (∀ i,i<fl->∃ b off,x.p=aO ⟨b,off,aN⟩/\b<wc.heap.size):=fun i hi=>by
  rcases HLy.out with e|⟨b,off,e,hb,_⟩
  ·rw[Zy.out,e]at hi;exact absurd hi (uT _)
  ·exact⟨b,off,e,hb⟩
 clear Ek Kb C7 zi hcut hfl Ld;generalize x.p=xp at p2 HLy U0;generalize x.c=xc at p2;go_wp2_with fail;go_quiet (fail);go_wp2_with fail;have lC:W.heap.size<wc.heap.size:=by omega
 go_loopg [8,196] fl (fun gg s8 agQ wr=>∃ (i:aE) (pv:Option Addr) (nv cv:aE),i<=fl/\fl-i<=gg/\agQ=aa ag i/\s8=ah pv nv cv/\ax (LK.Rows wr wc (ah pv nv cv) (LK.KM.fu (f.b9.take i) ow)/\au wc wc wr))
 case atStart=>exact⟨0,aN,0,0,bF _,by omega,rfl,rfl,LK.Rows.nil _ _,below_draws ⟨_,rfl⟩⟩
 case round=>
  obtain⟨i,pv,nv,cv,YI,oP,rfl,rfl,HI⟩:=hrel;have k1:=(HI.2.cell (p:=⟨W,1,aN⟩) lC).trans k1;have q1:=fun o=>bj o k1
  have lCr:W.heap.size<wr.heap.size:=aZ lC HI.2.size;by_cases gm:i<fl
  ·have eN:(i:aF)<(fl:aF):=by omega
   obtain⟨b,off,rfl,hb⟩:=U0.out i gm;obtain⟨y,hy⟩:∃ y,f.b9[i]?=aO y:=⟨_,aU (by have:=Zy.out;omega)⟩
   obtain⟨y0,y1,y2,y3⟩:wr.cell? ⟨b,off+i*4,aN⟩=aO (aa ag y.o)/\wr.cell? ⟨b,off+i*4+1,aN⟩=aO (aa ag y.f)/\wr.cell? ⟨b,off+i*4+2,aN⟩=aO (aa ag y.t)/\wr.cell? ⟨b,off+i*4+3,aN⟩=aO (aq y.a):=by
    rcases HLy.out with e|⟨b',off',e,ot,h3⟩
    ·rw[e]at hy;cases hy
    ·cases e
     exact LK.bI.cells h3 ot HI.2 hy
   have hbr:b<wr.heap.size:=aZ hb HI.2.size;have HT:ax (f.b9.take (i+1)=f.b9.take i++[y]):=by show _=_;rw[jv,hy];rfl
   have lw:=HI.2.size;clear hy;by_cases ho:y.o=ow
   ·have Kk:ax (LK.KM.fu (f.b9.take (i+1)) ow=LK.KM.fu (f.b9.take i) ow):=by show _=_;rw[HT.out];unfold LK.KM.fu;rw[eu];simp[ho]
    rw[ho]at y0;go_wp2_with fail;go_roundg (fl-(i+1))
    case measure=>omega
    case rel=>exact⟨i+1,pv,nv,cv,by omega,by omega,by go_num,rfl,by rw[Kk.out];exact HI.1.below ((Grown.refl wr).alloc _).below,HI.2.alloc HI.2.size _⟩
   ·have Kk:ax (LK.KM.fu (f.b9.take (i+1)) ow=LK.KM.fu (f.b9.take i) ow++[y]):=by show _=_;rw[HT.out];unfold LK.KM.fu;rw[eu];simp[ho]
    have hne:(y.o != (ow:aF))=aI:=by simpa using ho
    have HLe:ax ((LK.KM.fu (f.b9.take i) ow).length<=1000):=by show _<=_;have h1:=ed (fun z:LK.Lk => !decide (z.o=(ow:aF))) (f.b9.take i);have h2:=List.length_take_le i f.b9;unfold LK.KM.fu;omega
    go_wp2_with (at_builtin;refine LK.gS (wr.alloc (aM #[aa ag y.o, aa ag y.f, aa ag y.t, aq y.a] 117)) y rfl _ _ rfl wc (ah pv nv cv) (LK.KM.fu (f.b9.take i) ow) rfl (HI.1.below ((Grown.refl wr).alloc _).below) (by have:=HLe.out;omega) (by simp;omega) _ (by simp) rfl ?_;intro v3 w3 yC eG _ _;obtain⟨pv3,nv3,cv3,rfl⟩:=tv yC;have U1:ax (LK.Rows w3 wc (ah pv3 nv3 cv3) (LK.KM.fu (f.b9.take (i+1)) ow)/\au wc wc w3):=⟨by rw[Kk.out];exact yC,(HI.2.alloc HI.2.size _).trans eG⟩;clear yC eG);go_roundg (fl-(i+1))
    case measure=>omega
    case rel=>exact⟨i+1,pv3,nv3,cv3,by omega,by omega,by go_num,rfl,U1.out⟩
  ·have eN:¬ (i:aF)<(fl:aF):=by omega
   obtain rfl:fl=i:=by omega
   have HE:ax (LK.Rows wr wc (ah pv nv cv) (LK.KM.fu f.b9 ow)):=by have:=HI.1;rw[Zy.out,gh]at this;exact this
   obtain⟨⟨L2,xD⟩,Up⟩:=HK.SV HL.hfl HV.1 HI.2 HE.out;have HM:ax ((∃ L',cW aS (wr.setCell ⟨go,op.cM*3+2,aN⟩ (ah pv nv cv)) B ((s.dL (ow*8+k) aN).dQ op.cM { f with b9:=LK.KM.fu f.b9 ow }) L'/\L'.vo=L1.vo/\L'.vd=L1.vd/\L'.ex=L1.ex)/\gL aS B ((s.dL (ow*8+k) aN).dQ op.cM { f with b9:=LK.KM.fu f.b9 ow }) L W ⟨2,ow,k,cn,cm,cp,ct,cx,ca⟩ (wr.setCell ⟨go,op.cM*3+2,aN⟩ (ah pv nv cv))):=⟨⟨L2,xD⟩,(HO.pure HI.2).step ⟨HK.bB HI.2,iy.2.1⟩ Up⟩
   have c3:=(HI.2.cell (p:=⟨B,3,aN⟩) lB).trans c3;have d0:=(HI.2.cell (p:=⟨g,j*3,aN⟩) lg).trans d0;have p2:=(HI.2.cell (p:=⟨go,op.cM*3+2,aN⟩) Gq).trans p2;have f2:wr.frozen? ⟨go,op.cM*3+2,aN⟩=aH:=(dU (HI.2.block go Gq)).trans (fzo _);clear Up xD k0 k1 k2 k3 k4 k5 k6 k7 k8 kl;go_upto_region 39 with fail
   go_cut []from 210 to 220 (fun w=>ax ((∃ L',cW aS w B ((s.dL (ow*8+k) aN).dQ op.cM { f with b9:=LK.KM.fu f.b9 ow }) L'/\L'.vo=L1.vo/\L'.vd=L1.vd/\L'.ex=L1.ex)/\gL aS B ((s.dL (ow*8+k) aN).dQ op.cM { f with b9:=LK.KM.fu f.b9 ow }) L W ⟨2,ow,k,cn,cm,cp,ct,cx,ca⟩ w))
   case first=>
    go_region;all_goals
     go_wp2_with fail;go_meet
     case rel=>exact⟨by obtain⟨L',q1,q2⟩:=HM.1;exact⟨L',q1.bB (aR _ _).drew,q2⟩,HM.2.pure (aR _ _).drew⟩
   obtain⟨⟨L2,h2,SD,Li,Yx⟩,Nh⟩:=hcut.out;clear c3 d0 p2 f2 HM HO HE lg Gq lB;have HO:ax _:=Nh;obtain⟨g',X0,zi,lg,d0,_,_,_⟩:=h2.desc HL.gX;obtain⟨rfl,rfl⟩:g=g'/\cd=X0:=by rw[Li,iy.2.2.1]at zi;injection zi with e1 e2 e3;injection e1 with e1;injection e1 with e1;exact⟨e1,e3⟩
   have K8:((s.dL (ow*8+k) aN).dQ op.cM { f with b9:=LK.KM.fu f.b9 ow }).bh[op.cM]?=aO { f with b9:=LK.KM.fu f.b9 ow }:=jt (by rw[<- HV.2];exact hi);have SE:L2.vo=ah (aO go) ((s.dL (ow*8+k) aN).dQ op.cM { f with b9:=LK.KM.fu f.b9 ow }).bh.length co:=by rw[SD,HV.1];simp[Sy.dQ]
   have c3:=h2.cells.2.2.2.1;rw[SD,HV.1,<- HV.2]at c3;have lB:=h2.lt;have SC:=DM h2 op.cM;have ng:go≠W.heap.size+1:=fun e=>h2.other HO.gz (by decide) (by decide) (by decide) (.inr (.inl (by rw[SE,<- e];rfl)))
   have ng':W.heap.size+1≠go:=fun e=>ng e.symm
   by_cases hm:op.cM∈((s.dL (ow*8+k) aN).dQ op.cM { f with b9:=LK.KM.fu f.b9 ow }).cr
   ·rw[dJ hm]at SC
    clear h2 K8 SE SD Li Yx;go_wp2_with (go_at_call 15;refine SC.mono ?_;clear SC;rintro r w5 ⟨rfl,fA⟩;have HB:ax _:=HO.pure fA;obtain⟨⟨b0,b1,b2,b3⟩,z0,z1,z2,z3⟩:=cK HB.gz;clear fA);exact ba (v:=ar #[aa ag 0,aa ag 0,ai ⟨#[]⟩,ah aN 0 0]) (by simp[results,results29,go_sem,b0,b1,b2,b3]) rfl (by rw[<- HR.out,aY hm];exact HB.iT 0 0 ⟨#[]⟩)
   ·rw[bD hm]at SC
    have HEm:ax (∀ Y,au wc wc Y->gL aS B (((s.dL (ow*8+k) aN).dQ op.cM { f with b9:=LK.KM.fu f.b9 ow }).dQ op.cM oU) L W ⟨2,ow,k,cn,cm,cp,ct,cx,ca⟩ (((Y.setCell ⟨go,op.cM*3,aN⟩ (ai ⟨#[]⟩)).setCell ⟨go,op.cM*3+1,aN⟩ (ai ⟨#[]⟩)).setCell ⟨go,op.cM*3+2,aN⟩ (ah aN 0 0))):=fun Y hY=>(HO.pure hY).step ⟨h2.bB hY,fun b hb=>iy.2.1.1 b (by unfold gV at hb ⊢;rw[SD,Li]at hb;exact hb),Yx.trans iy.2.1.2⟩ ((h2.bB hY).X5 K8 SE)
    obtain⟨go',co',x',Dc,_,Gq,o0,o1,o2,Iv,_⟩:=h2.obj K8;obtain⟨rfl,rfl⟩:go=go'/\co=co':=by rw[SE]at Dc;injection Dc with e1 e2 e3;injection e1 with e1;injection e1 with e1;exact⟨e1,e3⟩
    have v0:=Iv (op.cM*3);have v1:=Iv (op.cM*3+1);have v2:=Iv (op.cM*3+2);clear h2 K8 SE SD Li Yx Dc Iv;go_wp2_with (go_at_call 15;refine SC.mono ?_;clear SC;rintro r w5 ⟨rfl,fA⟩;have HB:ax _:=HO.pure fA;obtain⟨⟨b0,b1,b2,b3⟩,z0,z1,z2,z3⟩:=cK HB.gz;have H5:ax _:=HEm.out _ fA;have c3:=(fA.cell (p:=⟨B,3,aN⟩) lB).trans c3;have d0:=(fA.cell (p:=⟨g,j*3,aN⟩) lg).trans d0;have o0:=(fA.cell (p:=⟨go,op.cM*3,aN⟩) Gq).trans o0;have o1:=(fA.cell (p:=⟨go,op.cM*3+1,aN⟩) Gq).trans o1;have o2:=(fA.cell (p:=⟨go,op.cM*3+2,aN⟩) Gq).trans o2;have v0:w5.frozen? ⟨go,op.cM*3,aN⟩=aH:=(dU (fA.block go Gq)).trans v0;have v1:w5.frozen? ⟨go,op.cM*3+1,aN⟩=aH:=(dU (fA.block go Gq)).trans v1;have v2:w5.frozen? ⟨go,op.cM*3+2,aN⟩=aH:=(dU (fA.block go Gq)).trans v2;have alX:=aZ Gq fA.size;clear fA);go_region;all_goals
     have H6:ax _:=H5.pure (aR _ _).drew;clear b0 b1 b2 b3 z0 z1 z2 z3 H5;obtain⟨⟨b0,b1,b2,b3⟩,z0,z1,z2,z3⟩:=cK H6.gz;generalize (((w5.setCell ⟨go,op.cM*3,aN⟩ (ai ⟨#[]⟩)).setCell ⟨go,op.cM*3+1,aN⟩ (ai ⟨#[]⟩)).setCell ⟨go,op.cM*3+2,aN⟩ (ah aN 0 0)).drew=w6 at H6 b0 b1 b2 b3 z0 z1 z2 z3 ⊢;go_wp2_with fail;exact ba (v:=ar #[aa ag 0,aa ag 0,ai ⟨#[]⟩,ah aN 0 0]) (by simp[results,results29,go_sem,b0,b1,b2,b3]) rfl (by rw[<- HR.out,aW hm];exact H6.iT 0 0 ⟨#[]⟩)
end
structure uQ (aS:aE) (w:aw) (g c:aE) (xs:aB aD):Prop where
 low:aS<=g
 lt:g<w
 room:xs.length<=c
 cells:∀ j u,xs[j]?=aO u->w.cell? ⟨g,j,aN⟩=aO (.int .u8 u.toNat)
 spare:∀ j,j<c->(w.cell? ⟨g,j,aN⟩).isSome=aI/\w.frozen? ⟨g,j,aN⟩=aH
theorem uQ.bB{w':aw}(h:uQ aS w g c xs)(hB:au w w w'):uQ aS w' g c xs:=
 ⟨h.low,aZ h.lt hB.size,h.room,fun j u hu=>(hB.cell (p:=⟨g,j,aN⟩) h.lt).trans (h.cells j u hu),fun j hj=>⟨by rw[hB.cell (p:=⟨g,j,aN⟩) h.lt];exact(h.spare j hj).1,by rw[dU (hB.block g h.lt)];exact(h.spare j hj).2⟩⟩
theorem xK(b:aE):∀ (vs:aB az) (o:aE) (w:aw),(w.setCells b o vs).heap.size=w
 | [],_,_=>rfl
 | v::r,o,w=>by rw[World.setCells,xK b r];simp[World.setCell]
theorem uQ.put(h:uQ aS w g c xs)(o:aE)(ys:aB aD)(hle:o+ys.length<=c)(xs':aB aD)(hl:xs'.length<=c)(hx:∀ j u,xs'[j]?=aO u->(o<=j/\ys[j-o]?=aO u)\/((j<o\/o+ys.length<=j)/\xs[j]?=aO u)):uQ aS (w.setCells g o (ys.map fun x=>.int .u8 x.toNat)) g c xs':=by
 have hs:∀ j,j<(ys.map fun x=>Value.int .u8 (x.toNat:aF)).length->(w.cell? ⟨g,o+j,aN⟩).isSome=aI:=fun j hj=>(h.spare _ (by simp at hj;omega)).1
 have mq:∀ j u,ys[j]?=aO u->(w.setCells g o (ys.map fun x=>.int .u8 x.toNat)).cell? ⟨g,o+j,aN⟩=aO (.int .u8 u.toNat):=fun j u hu=>by obtain⟨hj,rfl⟩:=aQ.1 hu;rw[World.cell?_setCells_in g _ o w hs j (by simpa using hj)];simp
 refine⟨h.low,by rw[xK];exact h.lt,hl,fun j u hu=>?_,fun j hj=>⟨?_,by rw[World.frozen?_setCells];exact(h.spare j hj).2⟩⟩
 ·rcases hx j u hu with⟨a,b⟩|⟨a,b⟩
  ·have:=mq _ _ b
   rwa [show o+(j-o)=j by omega]at this
  ·rw[qX g _ o w _ (fun _ _=>by simpa using a)]
   exact h.cells j u b
 ·by_cases e:o<=j/\j<o+ys.length
  ·have:=mq (j-o) _ (aU (by omega))
   rw[show o+(j-o)=j by omega]at this;rw[this];rfl
  ·rw[qX g _ o w _ (fun _ _=>by simp;omega)]
   exact(h.spare j hj).1
theorem Q4(w:aw)(t:aA)(ht:t.size<=1000):uQ w (Lib.bytesWorld w 5 t) w.heap.size (grownCap w t.size 0 5) t.data.toList:=by
 have hz:(Lib.bytesCells w 5 t).size=grownCap w t.size 0 5:=by have:=Vk w t.size 0 5;simp[Lib.bytesCells];omega
 have hl:t.data.toList.length=t.size:=by simp
 refine⟨aV _,by rw[Lib.bytesWorld_size];omega,by rw[hl];exact Vk w t.size 0 _,fun j u hu=>?_,fun j hj=>⟨?_,?_⟩⟩
 ·rw[Lib.bytesWorld_cell w _ t j (by rw[<- hl];exact(aQ.1 hu).1),xh,hu]
  rfl
 ·rw[<- hz]at hj
  simp[World.cell?,Lib.bytesWorld_at_new,hj]
 ·simp[World.frozen?,Lib.bytesWorld_at_new]
  omega
theorem Q5{v:az}{n:aE}(h:w.ownsRow aS 5 1 v n (xs.map fun x=>.int .u8 x.toNat))(hn:0<n):∃ g c,v=ah (aO ⟨g,0,aN⟩) n c/\uQ aS w g c xs:=by
 obtain⟨h1,⟨_,e⟩|⟨g,c,eI,e,hb,hh,hc,_,hs,ht⟩⟩:=h
 ·omega
 rw[Nat.mul_one]at h1 ht hs;have hx:xs.length=n:=by simpa using h1
 refine⟨g,c,e,hb,(aX.1 hh).1,by omega,fun j u hu=>?_,fun j hj=>⟨by simp[World.cell?,hh,hs,hj],by simp[World.frozen?,hh]⟩⟩;have hj:=(aQ.1 hu).1;have e:(eI.toList.take n)[j]?=aO (.int .u8 u.toNat):=by rw[ht,cD,hu];rfl
 rw[dm,aY (by omega)]at e;simpa[World.cell?,hh]using e
theorem SJ:(Tryz.prog.info? 5).map (fun i=>(i.zero,i.size,i.bytes))=aO (aO (.int .u8 0),1,1):=by kernel_rfl
theorem acT(w:aw):(Go.sizeOf 5).run aP w=.ok 1 w:=by
 have h:=SJ;cases hi:Tryz.prog.info? 5 with
 | none=>rw[hi]at h;cases h
 | some i0 =>rw[hi]at h;simp only[dF,dt,jX]at h;simp[Go.sizeOf,typeInfo,hi,h.2.1]
theorem copied{Z wr:aw}{m P:aE}{t cx nt:aA}(hB:au Z Z wr)(h:uQ Z wr g c (t.data.toList++List.replicate (m-t.size) 0))(hl:m=(t.data.toList++List.replicate (m-t.size) (0:aD)).length)(h1:t.size<=m)(h2:P+cx.size<=m)(h3:m-t.size=P+cx.size-t.size)(hc:m<=c)(hn:nt.data.toList=(t.data.toList++List.replicate (P+cx.size-t.size) 0).take P++(cx.data.toList++(t.data.toList++List.replicate (P+cx.size-t.size) 0).drop (P+cx.size))):au Z Z (wr.drew.setCells g P (cx.data.toList.map fun x=>.int .u8 x.toNat))/\uQ Z (wr.drew.setCells g P (cx.data.toList.map fun x=>.int .u8 x.toNat)) g c nt.data.toList/\m=nt.data.toList.length:=by
 have hx:cx.data.toList.length=cx.size:=by simp
 rw[<- h3]at hn;generalize t.data.toList++List.replicate (m-t.size) 0=xs at *;have hlen:nt.data.toList.length=m:=by rw[hn,cJ,cJ,bL,fZ,<- hl,hx];omega
 refine⟨below_setCells h.low _ _ _ hB.drew,(h.bB (aR _ _).drew).put P cx (by rw[hx];omega) _ (by omega) fun j u hu=>?_,hlen.symm⟩;rw[hn]at hu;have ht:(xs.take P).length=P:=by rw[bL];omega
 by_cases h4:j<P
 ·rw[bR (by omega),dm,aY h4]at hu
  exact .inr ⟨.inl h4,hu⟩
 ·rw[cg (by omega),ht]at hu
  by_cases h5:j-P<cx.data.toList.length
  ·rw[bR h5]at hu
   exact .inl ⟨by omega,hu⟩
  ·rw[cg (by omega),fN]at hu
   exact .inr ⟨.inr (by omega),by rw[<- hu];congr 1;omega⟩
theorem Hw{ops:Array Oper}{rest:aB Oper}{o:Oper}{a:Act}{Q:Exit->Act->aw->Prop}(X:aw)(ly:o.guard=aN)(s x:Operand)(ho:o.op=.call { callee:=.builtin .append,args:=#[s,x],argTypes:=#[120,120] })(aS g n c:aE)(xs:aB aD)(hs:a.eval s=ah (aO g) n c)(hn:n=xs.length)(h:uQ aS X g c xs)(hl:n<=1000)(hb:aS<=X)(hx:a.eval x=ah (aO X) 1 1)(hK:∀ g' c' w',uQ aS w' g' c' (xs++[0])->au aS X w'->wpList aP ops Q rest (a.put o.dst (ah (aO ⟨g',0,aN⟩) (n+1) c')) w'):wpList aP ops Q (o::rest) a (X.alloc (aM #[.int .u8 0] 5)):=by
 obtain⟨i0,hi,h1,h2,h3⟩:∃ i0,Tryz.prog.info? 5=aO i0/\i0.zero=aO (.int .u8 0)/\i0.size=1/\i0.bytes=1:=by
  have h:=SJ;cases hi:Tryz.prog.info? 5 with
  | none=>rw[hi]at h;cases h
  | some i0 =>rw[hi]at h;simp only[dF,dt,jX]at h;exact⟨i0,rfl,h.1,h.2.1,h.2.2⟩
 have hB:=(aR X X).alloc (aV _) (aM #[.int .u8 0] 5);have h':=h.bB hB;have j5:∀ j u,[Value.int .u8 0][j]?=aO u->(X.alloc (aM #[.int .u8 0] 5)).cell? ((⟨X,0,aN⟩:Addr).add j)=aO u:=og X _ _;have BS:∀ u∈[Value.int .u8 0],u.oneCell'=aI:=by simp[Value.oneCell']
 subst hn;by_cases hr:xs.length+1<=c
 ·refine oD ly fun K hK'=>?_
  have Cr:=run_append_room_cells (P:=aP) (X.alloc (aM #[.int .u8 0] 5)) 120 o.type 5 i0 underlying120 hi g 0 xs.length c ⟨X,0,aN⟩ 1 1 [.int .u8 0] (by rw[h2];rfl) j5 BS hr (fun j hj=>(h'.spare _ (by rw[h2];simp at hj;omega)).1) (fun j hj=>(h'.spare _ (by rw[h2];simp at hj;omega)).2);unfold Oper.wp execOp;simp only[ho,resolve,invoke,builtin,lx,my,iQ,zW,iP,Kn,hs,hx,Cr];refine hK' _ _ (hK g c _ ?_ ?_)
  ·rw[h2,dD,Nat.mul_one]
   refine h'.put xs.length [0] (by simpa using hr) _ (by simpa using hr) fun j u hu=>?_
   by_cases e:j<xs.length
   ·rw[bR e]at hu
    exact .inr ⟨.inl e,hu⟩
   ·rw[cg (by omega)]at hu
    exact .inl ⟨by omega,hu⟩
  ·exact below_setCells h.low _ _ _ (hB.mono hb)
 ·refine Kc _ ly s x 120 ho 5 i0 _ 1 1 underlying120 hi h1 h2 h3 rfl (by decide) (aO ⟨g,0,aN⟩) xs.length c (xs.map fun x=>.int .u8 x.toNat) hs nofun (by simp) (fun b hb j u hu=>?_) ⟨X,0,aN⟩ 1 1 [.int .u8 0] hx rfl j5 BS (by omega) (by unfold maxLen;omega) (by omega) ?_
  ·cases hb
   rw[dG,dD];rw[cD]at hu;obtain⟨v,hv,rfl⟩:=dM.1 hu;exact h'.cells j v hv
  ·intro v' w' gG gN
   obtain⟨g',c',rfl,hR⟩:=Q5 (xs:=xs++[0]) (by simpa using gG) (by omega);refine hK g' c' w' ⟨by have:=hR.low;omega,hR.lt,hR.room,hR.cells,hR.spare⟩ ((hB.mono hb).trans (Below.grown (aR aS _) gN (by have:=hB.size;omega) (fun k hk=>by simp at hk)))
theorem Zm:∀ r,Lib.repeatL [0] r=List.replicate r 0
 | 0=>rfl
 | r+1=>by rw[Lib.repeatL,Zm r];rfl
theorem Ws(T tx:aA)(P:aE)(h:¬ tx.data.toList=[]):(js T tx P).data.toList=(T.data.toList++List.replicate (P+tx.size-T.size) 0).take P++(tx.data.toList++(T.data.toList++List.replicate (P+tx.size-T.size) 0).drop (P+tx.size)):=by
 have hl:T.data.toList.length=T.size:=by simp
 have e1:(T.extract 0 (min P T.size)).data.toList=T.data.toList.take P:=by simp only[BF,D7,pX,List.drop_zero,Nat.sub_zero];rw[Nat.min_comm,<- hl,List.take_eq_take_min (i:=P),Nat.min_comm]
 have e2:(T.extract (min (P+tx.size) T.size) T.size).data.toList=T.data.toList.drop (P+tx.size):=by
  simp only[BF,D7,pX];rw[cz (by rw[fZ,hl];exact aV _)];by_cases hp:P+tx.size<=T.size
  ·rw[eM hp]
  ·rw[Nat.min_eq_right (by omega),cy (by rw[hl];exact aV _),cy (by rw[hl];omega)]
 rw[js,aW h];unfold fI;rw[show(min (P:aF) T.size).toNat=min P T.size by omega,show(max 0 ((P:aF)-T.size)).toNat=P-T.size by omega,show(min ((P:aF)+tx.size) T.size).toNat=min (P+tx.size) T.size by omega,Zm,List.take_append,List.drop_append,hl,List.take_replicate,cy (l:=List.replicate _ _) (by simp)];simp only[ByteArray.data_append,Array.toList_append,e1,e2];rw[eM (by omega)];simp
theorem uQ.str{m:aE}{nt:aA}(h:uQ aS w g c nt)(hm:m=nt.data.toList.length):(convert 120 9 (ah (aO g) m c)).run aP w=.ok (ai nt) w:=by subst hm;exact aiZ (P:=aP) w 120 9 5 ⟨g,0,aN⟩ c nt underlying120 underlying5 underlying9 fun j hj=>by rw[dG,dD];exact h.cells j _ (aU hj)
section
variable {aS:aE}{W:aw}{B:aE}{s:Sy}{L:ja}
theorem Mx(t:aA)(N:aE):splice (List.replicate N (Value.int .u8 0)) 0 ((t.data.toList.take (Nat.min t.size N)).map fun b=>Value.int .u8 b.toNat)=(fI t N).data.toList.map (fun b=>Value.int .u8 b.toNat)/\(fI t N).data.toList.length=N:=by
 have hl:t.data.toList.length=t.size:=by simp
 have hm:(min (N:aF) t.size).toNat=min t.size N:=by omega
 have hm2:Nat.min t.size N=min t.size N:=rfl;have hr:(max 0 ((N:aF)-t.size)).toNat=N-t.size:=by omega
 have hd:(fI t N).data.toList=t.data.toList.take (min t.size N)++List.replicate (N-t.size) 0:=by unfold fI;rw[hm,hr,Zm];simp[pX]
 rw[hd,hm2];constructor
 ·unfold splice
  simp only[Ea,fo,fk,List.map_replicate,bQ,bL,hl,dD,List.drop_replicate];congr 2;omega
 ·simp only[cJ,bL,hl,Cy]
  omega
theorem T1(h:cW aS W B s L)(cn cm:aF)(cp ct cx:aA)(ca:Bool)(ow k j:aE)(op:qI)(f:Fl)(how:ow<4)(hk:k<8)(hl:s.ia (ow*8+k) j op f)(iL:s.bh.length<1000000)(tI:s.bJ.length<1000000)(h0:(bH s.all).1=0)(hp:f.bm.size<=80)(lz:(s.cQ f).size<=100):ay aP 29 #[aj (aO B),ar #[aa ag 16,aa ag ow,aa ag k,aa ag cn,aa ag cm,ai cp,ai ct,ai cx,aq ca]] W (ic aS B (if s.nV op f cn=0 then s.eT op.cM f (fI (s.cQ f) cn)else s) (if s.nV op f cn=0 then gz 0 ⟨#[]⟩else km (s.nV op f cn)) L W):=by
 have HS:ax (gL aS B s L W ⟨16,ow,k,cn,cm,cp,ct,cx,ca⟩ _):=gL.start h _;have HL:ax (s.ia (ow*8+k) j op f):=hl;generalize hR:ic aS B _ _ L W=R;have HR:ax (_=R):=hR;clear hR h hl;go_enter func29,ntmps29;go_upto_region 0 with fail
 go_cut [3,4]from 3 to 4 (fun s3 s4 w=>s3=aj (aO W)/\s4=aj (aO ⟨↑W+1,0,aN⟩)/\ax (gL aS B s L W ⟨16,ow,k,cn,cm,cp,ct,cx,ca⟩ w))
 case first=>
  go_wp2_with fail;go_meet
  case rel=>exact⟨rfl,rfl,HS.out⟩
 obtain⟨rfl,rfl,HO⟩:=hcut;clear HS;obtain⟨⟨k0,k1,k2,k3,k4,k5,k6,k7,k8⟩,kl⟩:=HO.cells;obtain⟨L1,h1,lj⟩:=HO.ex;obtain⟨g,cd,lN,lg,d0,d1,d2,fz⟩:=h1.desc HL.gX;have c4:=h1.cells.2.2.2.2;rw[lN]at c4;have vB:=h1.fd (k:=ow*8+k) (by omega);rw[mI HL.l6,<- dh 5]at vB;have hj:j<s.bJ.length:=(aQ.1 HL.gX).1;obtain⟨no,hno⟩:∃ n,n=s.bJ.length:=⟨_,rfl⟩
 rw[<- hno]at c4 hj tI;have O6:(j:aF)<(no:aF):=by omega
 have UA:(ow:aF)<4:=by omega
 have He:(k:aF)<8:=by omega
 have g1:decide ((k:aF)<0)=aH:=bD (by omega);have g2:decide (7<(k:aF))=aH:=bD (by omega);have g3:decide ((j:aF)<0)=aH:=bD (by omega);have lz:=fun Y (hY:au wc.heap.size wc Y)=>kN (h1.bB hY) op.cM f HL.hfl iL
 have iy:ax (cW aS wc B s L1/\((∀ b,gV B L1 b->gV B L b\/W.heap.size<=b)/\L1.ex=fun b=>b=W.heap.size+1\/L.ex b)/\L1.vd=ah (aO g) no cd/\no=s.bJ.length):=⟨h1,lj,by rw[hno];exact lN,hno⟩
 have lB:=h1.lt;clear h1 lj lN hno fz;go_wp2_with fail;go_quiet (fail);go_wp2_with fail;go_quiet (fail);go_upto_region 5 with fail
 go_cut [5,6,7]from 21 to 64 (fun s5 s6 s7 w=>s5=aa ag j/\s6=aj (aO ⟨g,j*3,aN⟩)/\s7=ai (s.cQ f)/\ax (au wc wc w))
 case first=>
  go_wp2_with (go_at_call 55;refine(lz _ (below_draws ⟨_,rfl⟩)).mono ?_;rintro r w4 ⟨rfl,eO⟩;have HB:ax (au wc wc w4):=Below.bK (below_draws ⟨_,rfl⟩) eO;clear eO);go_meet
  case rel=>exact⟨rfl,rfl,rfl,HB.out⟩
 obtain⟨rfl,rfl,rfl,HB⟩:=hcut;replace HO:ax (gL aS B s L W ⟨16,ow,k,cn,cm,cp,ct,cx,ca⟩ wc):=HO.pure HB.out;replace iy:ax (cW aS wc B s L1/\((∀ b,gV B L1 b->gV B L b\/W.heap.size<=b)/\L1.ex=fun b=>b=W.heap.size+1\/L.ex b)/\L1.vd=ah (aO g) no cd/\no=s.bJ.length):=⟨iy.1.bB HB.out,iy.2⟩
 clear k0 k1 k2 k3 k4 k5 k6 k7 k8 kl vB c4 d0 d1 d2 lz g1 g2 g3 lB lg HB;obtain⟨⟨k0,k1,k2,k3,k4,k5,k6,k7,k8⟩,kl⟩:=HO.cells;obtain⟨_,_,lN,lg,d0,d1,d2,fz⟩:=iy.1.desc HL.gX;obtain⟨rfl,rfl⟩:g=_/\cd=_:=by rw[iy.2.2.1]at lN;injection lN with e1 e2 e3;injection e1 with e1;injection e1 with e1;exact⟨e1,e3⟩
 clear lN;have lB:=iy.1.lt;have h0':=h0;generalize htt:s.cQ f=tt;have WH:ax (s.cQ f=tt):=htt;have hcv:=fun w=>Lib.run_convert_string_bytes (P:=aP) w 9 120 5 tt underlying9 underlying120 underlying5
 cases hu:(bits BinOp.and IntKind.i64 op.use 2 == 0);rotate_left
 ·clear hcv
  go_wp2_with (go_at_call 27;refine(fP _ _).mono ?_;rintro r wb ⟨rfl,fR⟩;have HB:ax _:=HO.pure fR;obtain⟨⟨b0,b1,b2,b3⟩,z0,z1,z2,z3⟩:=cK HB.gz;clear fR);exact ba (v:=ar #[aa ag 8,aa ag 0,ai ⟨#[]⟩,ah aN 0 0]) (by simp[results,results29,go_sem,b0,b1,b2,b3]) rfl (by rw[<- HR.out,show s.nV op f cn=8 from aY hu,aW (by decide),aW (by decide)];exact HB.iT 8 0 ⟨#[]⟩)
 clear htt;go_upto_region 9 with fail
 go_cut [17]from 67 to 75 (fun s17 w=>∃ (gb c:aE),s17=ah (aO gb) tt.size c/\ax (au wc wc w/\wc<=gb/\gb<w.heap.size/\∀ i,i<tt.size->w.cell? ⟨gb,i,aN⟩=aO (.int .u8 (tt.data.toList.getD i 0).toNat)))
 case first=>
  go_wp2_with fail;go_meet
  case rel=>exact⟨_,_,rfl,vA _ _ _,aV _,by rw[Lib.bytesWorld_size];omega,fun i hi=>Lib.bytesWorld_cell _ _ _ i hi⟩
 obtain⟨gb,cb,rfl,xO⟩:=hcut;replace HO:=show ax _ from HO.pure xO.1
 replace iy:=show ax (cW aS wc B s L1/\_)from⟨iy.1.bB xO.1,iy.2⟩
 clear hcv k0 k1 k2 k3 k4 k5 k6 k7 k8 kl d0 d1 d2 lB lg fz;obtain⟨⟨k0,k1,k2,k3,k4,k5,k6,k7,k8⟩,kl⟩:=HO.cells;have hcs:cn<0\/100<cn\/¬ cn<0/\¬ 100<cn:=by omega
 rcases hcs with e|e|⟨e,e2⟩
 ·have e3:decide (cn<0)=aI:=dJ e
  go_wp2_with (go_at_call 27;refine(fP _ _).mono ?_;rintro r wb ⟨rfl,fR⟩;have HB:ax _:=HO.pure fR;obtain⟨⟨b0,b1,b2,b3⟩,z0,z1,z2,z3⟩:=cK HB.gz;clear fR);exact ba (v:=ar #[aa ag 3,aa ag 0,ai ⟨#[]⟩,ah aN 0 0]) (by simp[results,results29,go_sem,b0,b1,b2,b3]) rfl (by rw[<- HR.out,show s.nV op f cn=3 from(by unfold Sy.nV;rw[hu,aW (by decide),aY (.inl e)]),aW (by decide),aW (by decide)];exact HB.iT 3 0 ⟨#[]⟩)
 ·have e3:decide (cn<0)=aH:=bD (by omega)
  have e4:decide (100<cn)=aI:=dJ e;go_wp2_with (go_at_call 27;refine(fP _ _).mono ?_;rintro r wb ⟨rfl,fR⟩;have HB:ax _:=HO.pure fR;obtain⟨⟨b0,b1,b2,b3⟩,z0,z1,z2,z3⟩:=cK HB.gz;clear fR);exact ba (v:=ar #[aa ag 3,aa ag 0,ai ⟨#[]⟩,ah aN 0 0]) (by simp[results,results29,go_sem,b0,b1,b2,b3]) rfl (by rw[<- HR.out,show s.nV op f cn=3 from(by unfold Sy.nV;rw[hu,aW (by decide),aY (.inr e)]),aW (by decide),aW (by decide)];exact HB.iT 3 0 ⟨#[]⟩)
 have e3:decide (cn<0)=aH:=bD e;have e4:decide (100<cn)=aH:=bD e2;obtain⟨N,rfl⟩:∃ N:aE,cn=N:=⟨cn.toNat,by omega⟩
 have hmk:=fun w=>run_make_row' (P:=aP) 120 5 (.int .u8 0) 1 underlying120 SJ rfl .i64 .i64 N (by omega) (by omega) w
 rename aw=>wz
 go_upto_region 13 with fail
 go_cut [18]from 76 to 90 (fun s18 w=>∃ gn:aE,s18=ah (aO gn) N N/\ax (w.heap[gn]?=aO (aM (madeCells #[.int .u8 0] N) 5)/\wz<=gn/\au wz wz w))
 case first=>
  go_wp2_with fail;go_meet
  case rel=>exact⟨_,rfl,heap_alloc_last _ _,aV _,((Grown.refl _).alloc _).below⟩
 obtain⟨gn,rfl,HN⟩:=hcut;have Sk:madeCells #[.int .u8 0] N=(List.replicate N (Value.int .u8 0)).toArray:=by rw[<- toList_madeCells_one]
 have HG:ax (wc.heap[gn]?=aO (aM (List.replicate N (Value.int .u8 0)).toArray 5 (0,0))):=by show _=_;rw[<- Sk];exact HN.1
 have HCs:ax (((tt.data.toList.take (Nat.min tt.size N)).map fun b=>Value.int .u8 b.toNat).length=Nat.min tt.size N/\∀ j v,((tt.data.toList.take (Nat.min tt.size N)).map fun b=>Value.int .u8 b.toNat)[j]?=aO v->wc.cell? ((⟨gb,0,aN⟩:Addr).add j)=aO v):=by
  have hl:tt.data.toList.length=tt.size:=by simp
  refine⟨by simp,fun j v hv=>?_⟩;have hj:j<Nat.min tt.size N:=by have:=(aQ.1 hv).1;simpa using this
  have hj2:j<tt.size:=aZ hj (QV _ _);rw[cD,dm,aY hj,aU (by rw[hl];exact hj2)]at hv;simp only[dF,dt]at hv;rw[<- hv,dG,dD,HN.2.2.cell (p:=⟨gb,j,aN⟩) xO.2.2.1,xO.2.2.2 j hj2,xh,aU (by rw[hl];exact hj2)];rfl
 generalize abo:((tt.data.toList.take (Nat.min tt.size N)).map fun b=>Value.int .u8 b.toNat)=cs at HCs;have HCV:ax (_=cs):=abo;clear abo Sk hmk;go_upto_region 14 with fail
 go_cut []from 91 to 93 (fun w=>ax (w.heap[gn]?=aO (aM (splice (List.replicate N (Value.int .u8 0)) 0 cs).toArray 5 (0,0))/\au wz wz w))
 case first=>
  go_wp2_with (refine wpList_copy_splice rfl (.tmp 91) (.tmp 92) 120 120 rfl 5 underlying120 (by kernel_rfl) (aO ⟨gn,0,aN⟩) (aO ⟨gb,0,aN⟩) N N tt.size cb rfl rfl gn 0 (List.replicate N (.int .u8 0)) 5 HG.out cs HCs.1 (fun _=>⟨rfl,_,rfl,HCs.2⟩) (by rw[HCs.1,Cy,dD];exact Nat.min_le_right _ _) (by rw[<- HCV.out];intro v hv;obtain⟨b,_,rfl⟩:=fT.1 hv;rfl) wz.heap.size wz HN.2.2 HN.2.1 ?_;intro w5 h5 fA;have H5:ax _:=fB h5 fA;clear h5 fA);go_meet
  case rel=>exact⟨H5.1.out,H5.2⟩
 have HS:=Mx tt N;rw[HCV.out]at HS;have HC5:=hcut.1;rw[HS.1]at HC5;have Vx:∀ w:aw,w.heap[gn]?=wc.heap[gn]?->(convert 120 9 (ah (aO gn) N N)).run aP w=.ok (ai (fI tt N)) w:=fun w hw=>by
  have:=aiZ (P:=aP) w 120 9 5 ⟨gn,0,aN⟩ N (fI tt N).data.toList underlying120 underlying5 underlying9 (fun j hj=>by
   have e:w.cell? ⟨gn,j,aN⟩=((fI tt N).data.toList.map (fun b=>Value.int .u8 b.toNat))[j]?:=by simp[World.cell?,hw,HC5]
   rw[dG,dD,e,cD,aU hj];rfl)
  rw[HS.2]at this;exact this
 have abj:=Vx wc rfl;have abk:=Vx wc.drew rfl;have UT:ax (cW aS wc B s L1):=iy.1.bB hcut.2;replace HO:=show ax _ from HO.pure hcut.2
 have IU:=fun Y (hY:au wc.heap.size wc Y)=>FA (UT.bB hY) op.cM f HL.hfl iL h0 (by omega) (fI tt N) (by rw[<- ix,HS.2];omega)
 obtain⟨_,_,lN,lg,d0,d1,d2,fz⟩:=UT.desc HL.gX;obtain⟨rfl,rfl⟩:g=_/\cd=_:=by rw[iy.2.2.1]at lN;injection lN with e1 e2 e3;injection e1 with e1;injection e1 with e1;exact⟨e1,e3⟩
 have qH:ax (R=ic aS B (if s.eh f (fI tt N)=0 then s.eT op.cM f (fI tt N)else s) ⟨s.eh f (fI tt N),0,⟨#[]⟩,[]⟩ L W):=by
  show R=_;rw[<- HR.out,show s.nV op f N=s.eh f (fI tt N) by unfold Sy.nV;rw[hu,aW (by decide),aW (by omega),WH.out],WH.out];by_cases hz:s.eh f (fI tt N)=0
  ·rw[aY hz,aY hz,hz];rfl
  ·rw[aW hz,aW hz];rfl
 generalize fI tt N=nt at abj abk IU qH;generalize s.eh f nt=ke at IU qH;clear lN Vx HC5 HS hcut HCs HG HR xO HN HCV;go_wp2_with fail;go_region_with (first
  | (go_at_call 57;refine(IU _ (aR _ _).drew).mono ?_;clear IU;rintro r w6 ⟨rfl,G9⟩;have XK:ax _:=(HO.pure (aR _ _).drew).step ⟨UT.bB (aR _ _).drew,iy.2.1⟩ G9.post;clear G9)
  | (go_at_call 27;refine(fP _ _).mono ?_;rintro r wb ⟨rfl,fR⟩;have HB:ax _:=XK.pure fR;obtain⟨⟨b0,b1,b2,b3⟩,z0,z1,z2,z3⟩:=cK HB.gz;clear fR))
 all_goals
  go_wp2_with fail;exact ba (v:=ar #[aa ag ke,aa ag 0,ai ⟨#[]⟩,ah aN 0 0]) (by simp[results,results29,go_sem,b0,b1,b2,b3]) rfl (by rw[qH.out];exact HB.iT ke 0 ⟨#[]⟩)
end
