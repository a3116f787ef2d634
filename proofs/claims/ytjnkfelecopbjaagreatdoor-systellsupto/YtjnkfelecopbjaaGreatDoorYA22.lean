import Derived.Test.YtjnkfelecopbjaaGreatDoorYA21
open Go.Proofs.Tryz
open Go.Value renaming int->aa,slice->ah,string->ai,pointer->aj,bool->aq,agg->ar,tuple->aL
open Go.IntKind renaming i64->ag
open Go.RowKit renaming Below->au
open Go renaming World->aw,Aside->ax,Calls->ay
open _root_ renaming ByteArray->aA,Nat->aE,Int->aF
open Bool renaming false->aH,true->aI
open Go.Obj renaming cells->aM
open Option renaming none->aN,some->aO
open Go.Proofs.Tryz renaming prog->aP
set_option linter.all false
set_option maxHeartbeats 8000000
set_option maxRecDepth 100000
namespace Go.Proofs.YtjnkfelecopbjaaGreatDoor
open Go.RowKit PM Go.Sort
section
variable {aS:aE}{W:aw}{B:aE}{s:Sy}{L:ja}
theorem MP(h:cW aS W B s L)(ck co cf cn cm:aF)(cp ct cx:aA)(ca:Bool)(ow:aE)(ho:co=ow)(how:ow<4)(tG:cp.size<=1048576)(hfl:s.bh.length<1000000)(VJ:s.bJ.length<1000000)(h0:(bH s.all).1=0):ay aP 28 #[aj (aO B),ar #[aa ag ck,aa ag co,aa ag cf,aa ag cn,aa ag cm,ai cp,ai ct,ai cx,aq ca]] W (ic aS B (if s.gA ow cn cp=0 then(s.di (s.jD (s.tL cn cp).2 cn) s.cq).qN (fU (s.tL cn cp).2) cn (ow*8+(s.eF ow).toNat)else s) (if s.gA ow cn cp=0 then gz (s.eF ow) ⟨#[]⟩else km (s.gA ow cn cp)) L W):=by
 subst ho;have h1:=gL.start h ⟨ck,ow,cf,cn,cm,cp,ct,cx,ca⟩;obtain⟨W2,xD⟩:=o7 ((W.alloc (aM #[aa ag ck,aa ag ow,aa ag cf,aa ag cn,aa ag cm,ai cp,ai ct,ai cx,aq ca] 51)).alloc (aM #[aa ag 0,aa ag 0,ai ⟨#[]⟩,ah aN 0 0] 38))
 have HW:ax ((W.alloc (aM #[aa ag ck,aa ag ow,aa ag cf,aa ag cn,aa ag cm,ai cp,ai ct,ai cx,aq ca] 51)).alloc (aM #[aa ag 0,aa ag 0,ai ⟨#[]⟩,ah aN 0 0] 38)=W2):=xD;have HO:ax (gL aS B s L W ⟨ck,ow,cf,cn,cm,cp,ct,cx,ca⟩ W2):=by rw[<- xD];exact h1
 obtain⟨⟨k0,k1,k2,k3,k4,k5,k6,k7,k8⟩,kl⟩:=h1.cells;have hh:∀ (w:aw) (x:aF),w.cell? ⟨W,3,aN⟩=aO (aa ag cn)->ay aP 53 #[aa ag x,aj (aO W)] w fun r w'=>r=.returned (aq (jZ cn x))/\w'=w:=fun w x hw=>aft hw rfl
 generalize hR:ic aS B _ _ L W=R;have HR:ax (_=R):=hR;have Hl:ax (∀ (e:aF) (w3:aw),s.gA ow cn cp=e->¬ e=0->gL aS B s L W ⟨ck,ow,cf,cn,cm,cp,ct,cx,ca⟩ w3->R (.returned (ar #[aa ag e,aa ag 0,ai ⟨#[]⟩,ah aN 0 0])) ((((w3.setCell ⟨↑W+1,0,aN⟩ (aa ag e)).setCell ⟨↑W+1,1,aN⟩ (aa ag 0)).setCell ⟨↑W+1,2,aN⟩ (ai ⟨#[]⟩)).setCell ⟨↑W+1,3,aN⟩ (ah aN 0 0))):=fun e w3 h1 h2 h3=>by rw[<- hR,h1,aW h2,aW h2];exact h3.iT e 0 ⟨#[]⟩
 clear hR h h1 xD;go_enter func28,ntmps28;go_upto_region 2 with fail
 go_cut [55]from 16 to 54 (fun s55 w=>s55=aq (!sS cn)/\w=W2)
 case first=>
  have HE:ax (sS cn=_):=Rx cn;by_cases g1:cn<1
  ·have g1':decide (cn<1)=aI:=dJ g1
   go_wp2_with (go_at_call 53;refine(hh _ _ (by go_simp)).mono ?_;rintro r w2 ⟨rfl,rfl⟩);go_meet
   case rel=>exact⟨by rw[HE.out];simp[g1],HW.out⟩
  ·have g1':decide (cn<1)=aH:=bD g1
   by_cases g2:63<cn
   ·have g2':decide (63<cn)=aI:=dJ g2
    go_wp2_with (go_at_call 53;refine(hh _ _ (by go_simp)).mono ?_;rintro r w2 ⟨rfl,rfl⟩);go_meet
    case rel=>exact⟨by rw[HE.out];simp[g2],HW.out⟩
   ·have g2':decide (63<cn)=aH:=bD g2
    cases e1:jZ cn 1<;>cases e2:jZ cn 2
    case' true.false=>cases e4:jZ cn 4
    case' true.false.false=>cases e32:jZ cn 32
    case' false.true|true.true|true.false.false.false=>cases e16:jZ cn 16
    case' false.true.true|true.true.true|true.false.false.false.true=>cases e8:jZ cn 8
    all_goals
     go_wp2_with (go_at_call 53;refine(hh _ _ (by go_simp)).mono ?_;rintro r w2 ⟨rfl,rfl⟩);all_goals
      go_meet
      case rel=>exact⟨by rw[HE.out];simp[*],HW.out⟩
 case rest=>
  obtain⟨rfl,rfl⟩:=hcut;clear k0 k1 k2 k3 k4 k5 k6 k7 k8 kl HW;obtain⟨⟨k0,k1,k2,k3,k4,k5,k6,k7,k8⟩,kl⟩:=HO.cells;cases C4:sS cn
  ·have HX:ax (s.gA ow cn cp=8):=by show _=_;unfold Sy.gA;rw[aY C4]
   go_wp2_with (go_at_call 27;refine(fP _ _).mono ?_;rintro r wb ⟨rfl,fR⟩;have HB:ax _:=HO.pure fR;obtain⟨⟨b0,b1,b2,b3⟩,z0,z1,z2,z3⟩:=cK HB.gz;clear fR);exact ba (v:=ar #[aa ag 8,aa ag 0,ai ⟨#[]⟩,ah aN 0 0]) (by simp[results,results28,go_sem,b0,b1,b2,b3]) rfl (Hl.out _ _ HX.out (by decide) HB.out)
  ·have hu:¬ (cn<1\/63<cn):=fun e=>by unfold sS at C4;rw[aY e]at C4;cases C4
   have J5:∀ x,(x=1\/x=2\/x=4\/x=8\/x=16\/x=32)->(bits BinOp.and IntKind.i64 cn x == 0) = !jZ cn x:=fun x hx=>by rw[Vv (by omega) (by omega) hx];unfold has;simp[bne]
   have iG:∀ w,gL aS B s L W ⟨ck,ow,cf,cn,cm,cp,ct,cx,ca⟩ w->ay aP 30 #[aj (aO B),ai cp,aq (!jZ cn 16)] w (jk (s.tL cn cp).1 (s.tL cn cp).2 w):=fun w hw=>by obtain⟨L1,h1,_⟩:=hw.ex;unfold Sy.tL;rw[J5 16 (by decide)];exact lU h1 cp tG _
   obtain⟨L1,h1,_⟩:=HO.ex;rcases qK s ow with e|⟨k,hk,e,hf⟩
   ·have HX:ax (s.gA ow cn cp=5):=by show _=_;unfold Sy.gA;rw[aW (by rw[C4];decide),aY (by omega)]
    have rR:=yu h1 ow how;rw[show s.sV ow=8 by unfold Sy.sV;rw[aY (by omega)]]at rR;clear h1;go_wp2_with (first|(go_at_call 27;refine(fP _ _).mono ?_;rintro r wb ⟨rfl,fR⟩;have HB:ax _:=HO.pure fR;obtain⟨⟨b0,b1,b2,b3⟩,z0,z1,z2,z3⟩:=cK HB.gz;clear fR)|(go_at_call 54;refine rR.mono ?_;rintro r wf ⟨rfl,rfl⟩));exact ba (v:=ar #[aa ag 5,aa ag 0,ai ⟨#[]⟩,ah aN 0 0]) (by simp[results,results28,go_sem,b0,b1,b2,b3]) rfl (Hl.out _ _ HX.out (by decide) HB.out)
   ·have HX:ax (s.gA ow cn cp=if ¬ (s.tL cn cp).1=0 then(s.tL cn cp).1 else s.kE (s.tL cn cp).2 cn):=by show _=_;unfold Sy.gA;rw[aW (by rw[C4];decide),aW (by omega)]
    have rR:=yu h1 ow how;rw[show s.sV ow=k by unfold Sy.sV;rw[e,aW (by omega)]]at rR;have Ej:((k:aF) == 8)=aH:=by simp;omega
    have HK:ax (k<8/\s.eF ow=k/\s.fds (ow*8+k)=aN):=⟨hk,e,hf⟩
    have HU:ax (∀ x,(x=1\/x=2\/x=4\/x=8\/x=16\/x=32)->(bits BinOp.and IntKind.i64 cn x == 0) = !jZ cn x):=J5;obtain⟨Q,hQ⟩:=ee (s.tL cn cp)
    have HQ:ax (Q=s.tL cn cp):=hQ;rw[<- hQ]at iG HX HR;obtain⟨er,q⟩:=Q;simp only at iG HX HR;clear h1 hQ e hf J5 hu hk C4;go_upto_region 7 with(go_at_call 54;refine rR.mono ?_;rintro r wf ⟨rfl,rfl⟩)
    go_cut [7,8]from 64 to 73 (fun s7 s8 w=>∃ p:aA,s7=ai p/\s8=aa ag er/\ax (p.data.toList=q/\gL aS B s L W ⟨ck,ow,cf,cn,cm,cp,ct,cx,ca⟩ w))
    case first=>
     go_region_with (first
      | (go_at_call 53;refine(hh _ _ (by go_simp)).mono ?_;rintro r w2 ⟨rfl,rfl⟩)
      | (go_at_call 30;refine(iG _ (HO.pure (aR _ _).drew)).mono ?_;rintro r w3 ⟨p,rfl,hp,hB⟩;have HP:ax _:=fB hp ((HO.pure (aR _ _).drew).pure hB);clear hp hB))
     all_goals
      go_wp2_with fail;go_meet
      case rel=>exact⟨p,rfl,rfl,HP.out⟩
    case rest=>
     obtain⟨p,rfl,rfl,HP⟩:=hcut;clear HO k0 k1 k2 k3 k4 k5 k6 k7 k8 kl iG rR;have HO:ax _:=HP.2;obtain⟨⟨k0,k1,k2,k3,k4,k5,k6,k7,k8⟩,kl⟩:=HO.cells;by_cases ni:er=0;rotate_left
     ·have C3:(er != 0)=aI:=by simpa using ni
      go_wp2_with (go_at_call 27;refine(fP _ _).mono ?_;rintro r wb ⟨rfl,fR⟩;have HB:ax _:=HO.pure fR;obtain⟨⟨b0,b1,b2,b3⟩,z0,z1,z2,z3⟩:=cK HB.gz;clear fR);exact ba (v:=ar #[aa ag er,aa ag 0,ai ⟨#[]⟩,ah aN 0 0]) (by simp[results,results28,go_sem,b0,b1,b2,b3]) rfl (Hl.out _ _ (by rw[HX.out,aY ni]) ni HB.out)
     subst ni;obtain⟨L1,h1,_⟩:=HO.ex;obtain⟨_,_,c2,_⟩:=h1.cells;obtain⟨sn,ik⟩:∃ n,n=s.bA.length:=⟨_,rfl⟩
     rw[<- ik]at c2;have gI:=Ed s.bA p L1.ps sn L1.sc wc ik h1.data.now.bA (cY s.all) ((bW s.bA p).getD cR) (bW s.bA p).isSome rfl rfl;rw[HP.1]at gI;have ha:s.N7 q cn↔((bW s.bA q).isSome && (!jZ cn 32 || decide (((bW s.bA q).getD cR).text.data.toList=[])))=aI:=by unfold Sy.N7;rw[HU.out 32 (by decide)];simp
     have HY:ax (s.kE q cn=if(!(bW s.bA q).isSome && !jZ cn 8)=aI then 6 else if((bW s.bA q).isSome && jZ cn 16)=aI then 7 else if((bW s.bA q).isSome && ((bW s.bA q).getD cR).bE == 2)=aI then 9 else if((bW s.bA q).isSome && (!jZ cn 32 || decide (((bW s.bA q).getD cR).text.data.toList=[])))=aI then 0 else dg (bH s.all).1 (dW s.bA ⟨fU q,1,⟨#[]⟩,aH⟩) (cZ s.up ⟨fU q,1,⟨#[]⟩,aH⟩).length):=by show _=_;unfold Sy.kE;rw[HU.out 8 (by decide),show(bits BinOp.and IntKind.i64 cn 16 != 0)=jZ cn 16 by have:=HU.out 16 (by decide);rw[bne,this];simp];simp only[ha];simp
     have HZ:ax (s.jD q cn=if((bW s.bA q).isSome && (!jZ cn 32 || decide (((bW s.bA q).getD cR).text.data.toList=[])))=aI then s.up else cZ s.up ⟨fU q,1,⟨#[]⟩,aH⟩):=by show _=_;unfold Sy.jD;simp only[ha]
     generalize (bW s.bA q).getD cR=e at gI HY HZ;generalize (bW s.bA q).isSome=b at gI HY HZ;obtain⟨ep,ek,et,eo⟩:=e;simp only at HY HZ;have lB:=h1.lt;clear ik ha;go_upto_region 10 with fail
     go_cut [9,10]from 78 to 86 (fun s9 s10 w=>∃ E:aE,s9=aj (aO E)/\s10=aq b/\w.cell? ⟨E,1,aN⟩=aO (aa ag ek)/\w.cell? ⟨E,2,aN⟩=aO (ai et)/\ax (gL aS B s L W ⟨ck,ow,cf,cn,cm,cp,ct,cx,ca⟩ w))
     case first=>
      go_wp2_with (go_at_call 31;refine gI.mono ?_;rintro r w4 ⟨rfl,eO⟩;have HB:ax _:=HO.pure eO;clear eO);go_meet
      case rel=>exact⟨_,rfl,rfl,by simp,by simp,HB.pure ((Grown.refl _).alloc _).below⟩
     case rest=>
      clear gI c2 k0 k1 k2 k3 k4 k5 k6 k7 k8 kl HO h1 lB;obtain⟨E,rfl,rfl,E1,E2,HO⟩:=hcut;obtain⟨⟨k0,k1,k2,k3,k4,k5,k6,k7,k8⟩,kl⟩:=HO.cells;go_upto_region 11 with fail
      go_cut [93]from 87 to 92 (fun x w=>x=aq (!b && !jZ cn 8)/\w=wc)
      case first=>
       cases b;all_goals
        go_wp2_with (go_at_call 53;refine(hh _ _ (by go_simp)).mono ?_;rintro r w2 ⟨rfl,rfl⟩);go_meet
        case rel=>exact⟨by simp,rfl⟩
      obtain⟨rfl,rfl⟩:=hcut;cases t1:(!b && !jZ cn 8);rotate_left
      ·go_wp2_with (go_at_call 27;refine(fP _ _).mono ?_;rintro r wb ⟨rfl,fR⟩;have HB:ax _:=HO.pure fR;obtain⟨⟨b0,b1,b2,b3⟩,z0,z1,z2,z3⟩:=cK HB.gz;clear fR)
       exact ba (v:=ar #[aa ag 6,aa ag 0,ai ⟨#[]⟩,ah aN 0 0]) (by simp[results,results28,go_sem,b0,b1,b2,b3]) rfl (Hl.out _ _ (by rw[HX.out,aW (by decide),HY.out,aY t1]) (by decide) HB.out)
      go_upto_region 13 with fail
      go_cut [99]from 95 to 98 (fun x w=>x=aq (b && jZ cn 16)/\w=wc)
      case first=>
       cases b;all_goals
        go_wp2_with (go_at_call 53;refine(hh _ _ (by go_simp)).mono ?_;rintro r w2 ⟨rfl,rfl⟩);go_meet
        case rel=>exact⟨by simp,rfl⟩
      obtain⟨rfl,rfl⟩:=hcut;cases t2:(b && jZ cn 16);rotate_left
      ·go_wp2_with (go_at_call 27;refine(fP _ _).mono ?_;rintro r wb ⟨rfl,fR⟩;have HB:ax _:=HO.pure fR;obtain⟨⟨b0,b1,b2,b3⟩,z0,z1,z2,z3⟩:=cK HB.gz;clear fR)
       exact ba (v:=ar #[aa ag 7,aa ag 0,ai ⟨#[]⟩,ah aN 0 0]) (by simp[results,results28,go_sem,b0,b1,b2,b3]) rfl (Hl.out _ _ (by rw[HX.out,aW (by decide),HY.out,aW (by rw[t1];decide),aY t2]) (by decide) HB.out)
      go_upto_region 15 with fail
      go_cut [106]from 101 to 105 (fun x w=>x=aq (b && ek == 2)/\w=wc)
      case first=>
       cases b;all_goals
        go_wp2_with (go_at_call 53;refine(hh _ _ (by go_simp)).mono ?_;rintro r w2 ⟨rfl,rfl⟩);go_meet
        case rel=>exact⟨by simp,rfl⟩
      obtain⟨rfl,rfl⟩:=hcut;cases t3:(b && ek == 2);rotate_left
      ·go_wp2_with (go_at_call 27;refine(fP _ _).mono ?_;rintro r wb ⟨rfl,fR⟩;have HB:ax _:=HO.pure fR;obtain⟨⟨b0,b1,b2,b3⟩,z0,z1,z2,z3⟩:=cK HB.gz;clear fR)
       exact ba (v:=ar #[aa ag 9,aa ag 0,ai ⟨#[]⟩,ah aN 0 0]) (by simp[results,results28,go_sem,b0,b1,b2,b3]) rfl (Hl.out _ _ (by rw[HX.out,aW (by decide),HY.out,aW (by rw[t1];decide),aW (by rw[t2];decide),aY t3]) (by decide) HB.out)
      go_upto_region 17 with fail
      go_cut [118]from 108 to 117 (fun x w=>x=aq (!(b && (!jZ cn 32 || decide (et.data.toList=[]))))/\w=wc)
      case first=>
       cases b
       case' true=>cases e3:jZ cn 32
       case' true.true=>by_cases e4:et.data.toList=[]
       case' pos =>obtain rfl:et=⟨#[]⟩:=fV e4;clear e4
       case' neg=>have e5:et.toList.isEmpty=aH:=by rw[bq];simpa using e4
       all_goals
        go_wp2_with (go_at_call 53;refine(hh _ _ (by go_simp)).mono ?_;rintro r w2 ⟨rfl,rfl⟩);go_meet
        case rel=>exact⟨by first|(simp;done)|(simp[e3];done)|(simp[e3,e4];done),rfl⟩
      obtain⟨rfl,rfl⟩:=hcut;have Cb:ax (s.gA ow cn cp=if(b && (!jZ cn 32 || decide (et.data.toList=[])))=aI then 0 else dg (bH s.all).1 (dW s.bA ⟨p,1,⟨#[]⟩,aH⟩) (cZ s.up ⟨p,1,⟨#[]⟩,aH⟩).length):=by show _=_;rw[HX.out,aW (by decide),HY.out,aW (by rw[t1];decide),aW (by rw[t2];decide),aW (by rw[t3];decide),show fU q=p from fV (by rw[HP.1];simp[fU])]
      have Ak:p.size<=80:=by have e1:=HP.1;have e2:=congrArg Prod.snd HQ.out;rw[<- ix,e1,show q=(s.tL cn cp).2 from e2];exact jI _ _ _
      go_upto_if 118 with fail
      go_cut [11]from 87 to 133 (fun _ w=>ax (s.gA ow cn cp=0/\gL aS B (s.di (s.jD q cn) s.cq) L W ⟨ck,ow,cf,cn,cm,cp,ct,cx,ca⟩ w))
      case first=>
       cases t4:(b && (!jZ cn 32 || decide (et.data.toList=[])))
       ·rw[t4]at Cb HZ
        obtain⟨L2,HL⟩:=HO.ex;have h1:=HL.1;obtain⟨c0,c1,_⟩:=h1.cells;obtain⟨yn,ku⟩:∃ n,n=L2.y.es.length:=⟨_,rfl⟩
        obtain⟨ln,ka⟩:∃ n,n=L2.lo.length:=⟨_,rfl⟩
        have rh:=GM (W:=wc) (pl:=L2.pl) (cl:=L2.cl) ⟨p,1,⟨#[]⟩,aH⟩ ku ka h1.data.now.un (by rw[h1.up,h1.low];exact h0) (by show p.size<=_;omega) (by show(0:aE)<=_;omega);rw[h1.up,h1.low]at rh;have rh:ay aP _ _ _ (Hs (dg (bH s.all).1 (dW s.bA ⟨p,1,⟨#[]⟩,aH⟩) (cZ s.up ⟨p,1,⟨#[]⟩,aH⟩).length) _ _ _ _ _):=rh;have iM:s.gA ow cn cp=0->(bH (cZ s.up ⟨p,1,⟨#[]⟩,aH⟩::s.cq)).1=0:=fun e=>(oB (by have:=Cb.out;rw[aW (by decide),e]at this;exact this.symm)).1
        rw[<- show s.gA ow cn cp=_ from(Cb.out).trans (aW (by decide))]at rh;have HUp:ax (s.jD q cn=cZ s.up ⟨p,1,⟨#[]⟩,aH⟩):=by show _=_;rw[HZ.out,aW (by decide),show fU q=p from fV (by rw[HP.1];simp[fU])]
        rw[<- ku]at c0;rw[<- ka]at c1;have HH:ax ((cW aS wc B s L2/\(∀ b,gV B L2 b->gV B L b\/W.heap.size<=b)/\L2.ex=fun b=>b=W.heap.size+1\/L.ex b)/\ln=L2.lo.length/\(s.gA ow cn cp=0->(bH (cZ s.up ⟨p,1,⟨#[]⟩,aH⟩::s.cq)).1=0)):=⟨HL,ka,iM⟩
        clear HL h1 ku ka iM Cb HZ;generalize cZ s.up ⟨p,1,⟨#[]⟩,aH⟩=up at rh HH HUp;obtain⟨ae,qd⟩:=o7 (s.gA ow cn cp)
        rw[qd]at rh HH;have HAE:ax (s.gA ow cn cp=ae):=qd;clear qd;cases hz:(ae != 0);all_goals
         go_wp2_with (first
          | (go_at_call 32;refine rh.mono ?_;clear rh;rintro r w4 ⟨pp,n4,c4,vp,vk,ve,rfl,eO,H4⟩;have kT:ax (au wc wc w4):=eO;clear eO)
          | (go_at_call 13;refine(wY HH.1.1 kT.out (fun e=>by obtain⟨a1,a2,a3,a4,a5,a6,a7,a8⟩:=H4.out e;exact⟨a1,a2,a3.trans HH.2.1,a4,a5,a6,a7,a8⟩) HH.2.2).mono ?_;rintro r w5 ⟨rfl,D1⟩;replace HO:ax _:=HO.step HH.1 D1.post;clear D1)
          | (go_at_call 27;refine(fP _ _).mono ?_;rintro r wb ⟨rfl,fR⟩;have HB:ax _:=HO.pure fR;obtain⟨⟨b0,b1,b2,b3⟩,z0,z1,z2,z3⟩:=cK HB.gz;clear fR))
        ·have hz:ae=0:=by simpa using hz
         go_meet
         case rel=>exact⟨HAE.trans hz,by rw[HUp.out];have:=HO.out;rw[aY hz]at this;exact this⟩
        ·have hz:¬ ae=0:=by simpa using hz
         exact ba (v:=ar #[aa ag ae,aa ag 0,ai ⟨#[]⟩,ah aN 0 0]) (by simp[results,results28,go_sem,b0,b1,b2,b3]) rfl (Hl.out _ _ HAE.out hz (by have:=HB.out;rw[aW hz]at this;exact this))
       ·go_wp2_with fail
        go_meet
        case rel=>exact⟨by rw[Cb.out,aY t4],by rw[HZ.out,aY t4];exact HO.out⟩
      have rb:fU q=p:=fV (by rw[HP.1];simp[fU]);have WG:ax (ic aS B ((s.di (s.jD q cn) s.cq).qN p cn (ow*8+k)) ⟨0,k,⟨#[]⟩,[]⟩ L W=R):=by have:=HR.out;rw[aY hcut.1,aY hcut.1,HK.2.1,rb]at this;exact this
      have HS:ax ((s.di (s.jD q cn) s.cq).bh.length<1000000/\(s.di (s.jD q cn) s.cq).bJ.length<1000000):=⟨hfl,VJ⟩
      replace HO:ax _:=hcut.2;have HPQ:ax (p.data.toList=q):=HP.1;generalize s.di (s.jD q cn) s.cq=s1 at HO WG HS;clear hcut Hl HR Cb HZ HY HX HQ HU HP hh h0 rb t1 t2 t3 k0 k1 k2 k3 k4 k5 k6 k7 k8 kl E1 E2 hfl VJ;obtain⟨⟨k0,k1,k2,k3,k4,k5,k6,k7,k8⟩,kl⟩:=HO.cells;obtain⟨L2,h2,Uk⟩:=HO.ex;obtain⟨n,hn⟩:=ee s1.bh.length
      obtain⟨po,co,hv⟩:∃ po co,L2.vo=ah po n co:=by
       rcases h2.objs.2 with⟨e,e0⟩|⟨g,c,eI,e,_⟩
       ·exact⟨aN,0,by rw[e,hn,e0]⟩
       ·exact⟨_,_,by rw[e,hn]⟩
      have c3:=h2.cells.2.2.2.1;rw[hv]at c3;have lB:=h2.lt;have HL:ax ((cW aS wc B s1 L2/\(∀ b,gV B L2 b->gV B L b\/W.heap.size<=b)/\L2.ex=fun b=>b=W.heap.size+1\/L.ex b)/\L2.vo=ah po n co/\n=s1.bh.length):=⟨⟨h2,Uk⟩,hv,hn⟩
      have hn6:n<1000000:=by rw[hn];exact HS.1
      clear h2 Uk hn hv;go_wp2_with fail;go_loopg [12,139] n (fun gg s12 agO wr=>∃ j:aE,j<=n/\n-j<=gg/\agO=aa ag j/\s12=aa ag (mM s1.bh q j)/\ax (au wc wc wr))
      case atStart=>exact⟨0,bF _,by omega,rfl,rfl,aR _ _⟩
      case round=>
       obtain⟨j,hj,oP,rfl,rfl,HI⟩:=hrel;by_cases gm:j<n
       ·have eN:(j:aF)<(n:aF):=by omega
        obtain⟨f,hf⟩:∃ f,s1.bh[j]?=aO f:=⟨_,aU (by have:=HL.2.2;omega)⟩
        obtain⟨g,c,x,hv,_,hg,p0,p1,p2,_⟩:=(HL.1.1.bB HI.out).obj hf;rw[HL.2.1]at hv;injection hv with hv1 hv2 hv3
        subst hv1 hv3;have HF:ax (vV s1.bh j=f.bm.data.toList):=by show _=_;unfold vV;rw[hf];rfl
        have lV:ax (∀ o,au wc wc (wr.alloc o)):=fun o=>HI.alloc HI.size o
        clear hf hv2;by_cases hq:f.bm.data.toList=q
        ·have BU:f.bm=p:=fV (hq.trans HPQ.symm)
         have WE:ax (mM s1.bh q (j+1)=(j:aF)):=by show _=_;rw[mM,aY (HF.trans hq)]
         rw[BU]at p0;clear BU hq;go_wp2_with fail;go_roundg (n-(j+1))
         case measure=>omega
         case rel=>exact⟨j+1,by omega,by omega,by go_num,by rw[WE.out],lV.out _⟩
        ·have hne:(f.bm.toList == p.toList)=aH:=by rw[bq,bq];have:=HPQ.out;simpa[this]using hq
         have WE:ax (mM s1.bh q (j+1)=mM s1.bh q j):=by show _=_;rw[mM,aW (fun e=>hq (HF.symm.trans e))]
         generalize f.bm=fp at p0 hne;clear hq;go_wp2_with fail;go_roundg (n-(j+1))
         case measure=>omega
         case rel=>exact⟨j+1,by omega,by omega,by go_num,by rw[WE.out],lV.out _⟩
       ·have eN:¬ (j:aF)<(n:aF):=by omega
        obtain rfl:n=j:=by omega
        have Ue:ax (gL aS B s1 L W ⟨ck,ow,cf,cn,cm,cp,ct,cx,ca⟩ wr):=HO.pure HI.out;have QJ:ax (cW aS wr B s1 L2):=HL.1.1.bB HI.out;have c3:=(HI.cell (p:=⟨B,3,aN⟩) lB).trans c3;have lB2:=QJ.lt;have YM:=Ax s1.bh q n;have WE:ax (s1.qN p cn (ow*8+k)=if mM s1.bh q n<0 then((s1.kg ⟨p,⟨#[]⟩,[]⟩).kP ⟨n,cn,0⟩).dL (ow*8+k) (aO s1.bJ.length)else(s1.kP ⟨(mM s1.bh q n).toNat,cn,0⟩).dL (ow*8+k) (aO s1.bJ.length)):=by show _=_;unfold Sy.qN;rw[HPQ.out,<- HL.2.2]
        generalize mM s1.bh q n=la at YM WE;go_upto_if 151 with fail
        go_cut [12]from 150 to 167 (fun s12 w=>∃ (i:aE) (s2:Sy),s12=aa ag i/\ax (i<s2.bh.length/\gL aS B s2 L W ⟨ck,ow,cf,cn,cm,cp,ct,cx,ca⟩ w/\s1.qN p cn (ow*8+k)=(s2.kP ⟨i,cn,0⟩).dL (ow*8+k) (aO s2.bJ.length)/\s2.bJ.length<1000000))
        case first=>
         rcases YM with⟨rfl,_⟩|⟨i,hi,rfl,_⟩
         ·have HAdd:ax (∀ (v':Value) (X:aw),X.ownsRow aS 98 3 v' (n+1) (L2.ov.flatMap yV++[ai p,ai ⟨#[]⟩,ah aN 0 0])->(wr.alloc (aM #[ai p,ai ⟨#[]⟩,ah aN 0 0] 98)).grownBy X (Value.ownBlock (ah po n co))->(v'.ownBlock=Value.ownBlock (ah po n co)\/v'.ownBlock=aO (wr.alloc (aM #[ai p,ai ⟨#[]⟩,ah aN 0 0] 98)).heap.size)->gL aS B (s1.kg ⟨p,⟨#[]⟩,[]⟩) L W ⟨ck,ow,cf,cn,cm,cp,ct,cx,ca⟩ (X.setCell ⟨B,3,aN⟩ v')/\X.cell? ⟨B,3,aN⟩=aO (ah po n co)/\X.frozen? ⟨B,3,aN⟩=aH):=fun v' X a1 a2 a3=>by
           have hb:X.heap[B]?=wr.heap[B]?:=(a2.block B (by simp;omega) (fun e=>by rw[<- HL.2.1]at e;exact QJ.rJ (.inl e.symm) rfl)).trans (((Grown.refl wr).alloc _).below.block B lB2);refine⟨?_,(ji (a:=⟨B,3,aN⟩) hb).trans c3,(dU (a:=⟨B,3,aN⟩) hb).trans (QJ.EW 3)⟩;rw[<- HL.2.1]at a2 a3;rw[HL.2.2]at a1;exact Ue.step ⟨QJ.out,HL.1.2⟩ (QJ.kg p ((Grown.refl wr).alloc _).below a1 a2 a3)
          have HOw:ax ((wr.alloc (aM #[ai p,ai ⟨#[]⟩,ah aN 0 0] 98)).ownsRow aS 98 3 (ah po n co) n (L2.ov.flatMap yV)/\aS<=(wr.alloc (aM #[ai p,ai ⟨#[]⟩,ah aN 0 0] 98)).heap.size):=by have:=QJ.objs.alloc (aM #[ai p,ai ⟨#[]⟩,ah aN 0 0] 98);rw[HL.2.1,<- HL.2.2]at this;exact⟨this,by have:=QJ.aS;simp;omega⟩
          have a3:=fun o=>bj o c3
          go_wp2_with (at_builtin;refine oD rfl fun K hK=>T8 (wr.alloc (aM #[ai p,ai ⟨#[]⟩,ah aN 0 0] 98)) (.tmp 161) (.tmp 164) 59 rfl aS 98 3 56 _ underlying59 Zd rfl (by decide) (ah po n co) n (L2.ov.flatMap yV) rfl HOw.1 wr.heap.size [ai p,ai ⟨#[]⟩,ah aN 0 0] rfl rfl (JD wr _ _ _ _) (by simp[Value.oneCell']) (by omega) (by decide) HOw.2 (fun v' w' a1 a2 a3=>hK _ _ ?_);clear hK;obtain⟨pv,nv,cv,rfl⟩:=tv a1;obtain⟨q1,q2,q3⟩:=HAdd.out _ w' a1 a2 a3;have XJ:ax _:=q1;clear q1 a1 a2 a3);go_meet
          case rel=>exact⟨n,_,rfl,by show n<(s1.bh++[_]).length;rw[HL.2.2];simp,XJ.out,by rw[WE.out,aY (by decide)];rfl,HS.2⟩
         ·go_wp2_with fail
          go_meet
          case rel=>exact⟨i,s1,rfl,by rw[<- HL.2.2];exact hi,Ue.out,by rw[WE.out,aW (by omega)];rfl,HS.2⟩
        obtain⟨i,s2,rfl,XJ⟩:=hcut;clear Ue QJ WE YM c3 lB2 HL HO HI k0 k1 k2 k3 k4 k5 k6 k7 k8 kl HPQ HS lB;have HO:ax _:=XJ.2.1;obtain⟨⟨k0,k1,k2,k3,k4,k5,k6,k7,k8⟩,kl⟩:=HO.cells;obtain⟨L3,h3,pK⟩:=HO.ex;obtain⟨no,hno⟩:∃ n,n=s2.bJ.length:=⟨_,rfl⟩
        obtain⟨pd,cd,hv⟩:∃ po co,L3.vd=ah po no co:=by
         rcases h3.nC.2 with⟨e,e0⟩|⟨g,c,eI,e,_⟩
         ·exact⟨aN,0,by rw[e,hno,e0]⟩
         ·exact⟨_,_,by rw[e,hno]⟩
        have c4:=h3.cells.2.2.2.2;rw[hv]at c4;have lB:=h3.lt;have akZ:k<8:=HK.1;have vB:=h3.fd (k:=ow*8+k) (by omega);rw[<- dh 5]at vB;have ffd:=h3.EW (5+ow*8+k);have HL:ax ((cW aS wc B s2 L3/\(∀ b,gV B L3 b->gV B L b\/W.heap.size<=b)/\L3.ex=fun b=>b=W.heap.size+1\/L.ex b)/\L3.vd=ah pd no cd/\no=s2.bJ.length):=⟨⟨h3,pK⟩,hv,hno⟩
        generalize DT s2 (ow*8+k)=fi at vB;clear h3 pK hno hv;have aln:(ow:aF)<4:=by omega
        have He:(k:aF)<8:=by omega
        go_upto_region 31 with fail
        go_cut []from 168 to 180 (fun w=>ax (w.heap=(wc.setCell ⟨B,5+ow*8+k,aN⟩ (aa ag no)).heap/\au aS wc w))
        case first=>
         go_region;all_goals
          go_wp2_with fail;go_meet
          case rel=>exact⟨rfl,((aR aS wc).setCell (p:=⟨B,5+ow*8+k,aN⟩) HL.1.1.aS _).drew⟩
        clear c4 vB ffd k0 k1 k2 k3 k4 k5 k6 k7 k8 kl lB;have hz:=hcut.1;rw[dh 5]at hz;obtain⟨m1,m2,m3,m4,m5⟩:=HO.mid HL.1.1 hz;have c4:=m1.cell (i:=4) (by decide);rw[aW (by omega),show cellW s2 L3 4=L3.vd from rfl,HL.2.1]at c4;have k3:wc.cell? ⟨W,3,aN⟩=aO (aa ag cn):=by simp[World.cell?,m3]
        have lB:B<wc.heap.size:=aZ HL.1.1.lt m2.size;rw[HL.2.1,<- HL.2.2]at m5;have HM:ax (aS<=wc/\wc.ownsRow aS 103 3 (ah pd no cd) no (s2.bJ.flatMap yU)):=⟨by have:=HL.1.1.aS;omega,m5⟩
        have hA:ax (∀ X v',X.ownsRow aS 103 3 v' (no+1) (s2.bJ.flatMap yU++[aa ag i,aa ag cn,aa ag 0])->(wc.alloc (aM #[aa ag i,aa ag cn,aa ag 0] 103)).drew.grownBy X (Value.ownBlock (ah pd no cd))->(v'.ownBlock=Value.ownBlock (ah pd no cd)\/v'.ownBlock=aO (wc.alloc (aM #[aa ag i,aa ag cn,aa ag 0] 103)).drew.heap.size)->gL aS B (s1.qN p cn (ow*8+k)) L W ⟨ck,ow,cf,cn,cm,cp,ct,cx,ca⟩ (X.setCell ⟨B,4,aN⟩ v')/\X.cell? ⟨B,4,aN⟩=aO (ah pd no cd)/\X.frozen? ⟨B,4,aN⟩=aH):=fun X v' a1 a2 a3=>by rw[<- HL.2.1]at a2 a3;rw[HL.2.2]at a1 hz;have:=HO.anR HL.1 (by omega) ⟨i,cn,0⟩ XJ.1 hz hcut.2 ((Grown.refl wc).alloc _).below.drew a1 a2 a3;rw[XJ.2.2.1,<- HL.2.1];exact this
        have alj:no<1000000:=by rw[HL.2.2];exact XJ.2.2.2
        clear hz m1 m2 m3 m4 m5 hcut HL XJ;have a4:=fun o=>bj o c4
        have a3:=fun o=>bj o k3
        go_wp2_with fail;go_region_law (refine P6 rfl (T8 (wc.alloc (aM #[aa ag i,aa ag cn,aa ag 0] 103)).drew _ _ 60 rfl aS 103 3 24 _ underlying60 Zc rfl (by decide) (ah pd no cd) no (s2.bJ.flatMap yU) (by first|(simp[Act.eval];done)|fail) (HM.2.alloc _) wc.heap.size [aa ag i,aa ag cn,aa ag 0] (by first|(simp[Act.eval];done)|fail) rfl (JD wc _ _ _ _) (by simp[Value.oneCell']) (by omega) (by decide) (by have:=HM.1;show aS<=(wc.alloc _).heap.size;simp;omega) (fun v' w' a1 a2 a3=>?_));obtain⟨pv,nv,cv,rfl⟩:=tv a1;obtain⟨q1,q2,q3⟩:=hA.out w' _ a1 a2 a3;have HOf:ax _:=q1;obtain⟨⟨b0,b1,b2,b3⟩,z0,z1,z2,z3⟩:=cK HOf.gz;clear q1 a1 a2 a3);all_goals
         go_wp2_with fail;exact ba (v:=ar #[aa ag 0,aa ag k,ai ⟨#[]⟩,ah aN 0 0]) (by simp[results,results28,go_sem,b0,b1,b2,b3]) rfl (by rw[<- WG.out];exact HOf.iT 0 k ⟨#[]⟩)
end
section
variable {aS:aE}{W:aw}{B:aE}{s s':Sy}{L:ja}
theorem NU(h:cW aS W B s L)(ck co cf cn cm:aF)(cp ct cx:aA)(ca:Bool)(e:aF)(hl:(ck<1\/¬ ck<1/\16<ck)/\e=1\/¬ ck<1/\¬ 16<ck/\(co<0\/¬ co<0/\3<co)/\e=3):ay aP 14 #[aj (aO B),ar #[aa ag ck,aa ag co,aa ag cf,aa ag cn,aa ag cm,ai cp,ai ct,ai cx,aq ca]] W (ic aS B s (km e) L W):=by
 have HS:ax (gL aS B s L W ⟨ck,co,cf,cn,cm,cp,ct,cx,ca⟩ _):=gL.start h _;generalize hR:ic aS B _ _ L W=R;have HR:ax (_=R):=hR;clear hR h;go_enter func14,ntmps14;go_upto_region 0 with fail
 go_cut [3,4]from 3 to 4 (fun s3 s4 w=>s3=aj (aO W)/\s4=aj (aO ⟨↑W+1,0,aN⟩)/\ax (gL aS B s L W ⟨ck,co,cf,cn,cm,cp,ct,cx,ca⟩ w))
 case first=>
  go_wp2_with fail;go_meet
  case rel=>exact⟨rfl,rfl,HS.out⟩
 obtain⟨rfl,rfl,HO⟩:=hcut;clear HS;obtain⟨⟨k0,k1,k2,k3,k4,k5,k6,k7,k8⟩,kl⟩:=HO.cells;rcases hl with⟨e1|⟨e1,e2⟩,rfl⟩|⟨e1,e2,e3|⟨e3,e4⟩,rfl⟩;all_goals first|have g1:decide (ck<1)=aI:=dJ e1|have g1:decide (ck<1)=aH:=bD e1
 all_goals first|have g2:decide (16<ck)=aI:=dJ e2|have g2:decide (16<ck)=aH:=bD e2|skip
 all_goals first|have g3:decide (co<0)=aI:=dJ e3|have g3:decide (co<0)=aH:=bD e3|skip
 all_goals first|have g4:decide (3<co)=aI:=dJ e4|skip
 all_goals
  go_wp2_with (go_at_call 27;refine(fP _ _).mono ?_;rintro r wb ⟨rfl,fR⟩;have HB:ax _:=HO.pure fR;obtain⟨⟨b0,b1,b2,b3⟩,z0,z1,z2,z3⟩:=cK HB.gz;clear fR);first
   | exact ba (v:=ar #[aa ag 1,aa ag 0,ai ⟨#[]⟩,ah aN 0 0]) (by simp[results,results14,go_sem,b0,b1,b2,b3]) rfl (by rw[<- HR.out];exact HB.iT 1 0 ⟨#[]⟩)
   | exact ba (v:=ar #[aa ag 3,aa ag 0,ai ⟨#[]⟩,ah aN 0 0]) (by simp[results,results14,go_sem,b0,b1,b2,b3]) rfl (by rw[<- HR.out];exact HB.iT 3 0 ⟨#[]⟩)
theorem NV(h:cW aS W B s L)(ck cf cn cm:aF)(cp ct cx:aA)(ca:Bool)(ow:aE)(how:ow<4)(an:An)(g:aE)(hk:g=28/\ck=1\/g=29/\(ck=2\/ck=3\/ck=4\/ck=5\/ck=13\/ck=14\/ck=15\/ck=16))(hF:∀ (w:aw) (L1:ja),cW aS w B s L1->ay aP g #[aj (aO B),ar #[aa ag ck,aa ag ow,aa ag cf,aa ag cn,aa ag cm,ai cp,ai ct,ai cx,aq ca]] w (ic aS B s' an L1 w)):ay aP 14 #[aj (aO B),ar #[aa ag ck,aa ag ow,aa ag cf,aa ag cn,aa ag cm,ai cp,ai ct,ai cx,aq ca]] W (ic aS B s' an L W):=by
 have HS:ax (gL aS B s L W ⟨ck,ow,cf,cn,cm,cp,ct,cx,ca⟩ _):=gL.start h _;have g1:decide ((ow:aF)<0)=aH:=bD (by omega);have g2:decide (3<(ow:aF))=aH:=bD (by omega);clear h;go_enter func14,ntmps14;go_upto_region 0 with fail
 go_cut [3,4]from 3 to 4 (fun s3 s4 w=>s3=aj (aO W)/\s4=aj (aO ⟨↑W+1,0,aN⟩)/\ax (gL aS B s L W ⟨ck,ow,cf,cn,cm,cp,ct,cx,ca⟩ w))
 case first=>
  go_wp2_with fail;go_meet
  case rel=>exact⟨rfl,rfl,HS.out⟩
 obtain⟨rfl,rfl,HO⟩:=hcut;clear HS;obtain⟨⟨k0,k1,k2,k3,k4,k5,k6,k7,k8⟩,kl⟩:=HO.cells;obtain⟨L1,hL⟩:=HO.ex;have mz:=hF wc L1 hL.1;have HL:ax _:=hL;clear hL hF;rcases hk with⟨rfl,rfl⟩|⟨rfl,rfl|rfl|rfl|rfl|rfl|rfl|rfl|rfl⟩;all_goals
  go_wp2_with (first|(go_at_call 28;refine mz.mono ?_;clear mz;intro r w3 h3;obtain⟨pa,na,ca3,rfl,h4,H4⟩:=HO.call HL.out h3;obtain⟨⟨b0,b1,b2,b3⟩,z0,z1,z2,z3⟩:=cK h4;clear h3 h4)|(go_at_call 29;refine mz.mono ?_;clear mz;intro r w3 h3;obtain⟨pa,na,ca3,rfl,h4,H4⟩:=HO.call HL.out h3;obtain⟨⟨b0,b1,b2,b3⟩,z0,z1,z2,z3⟩:=cK h4;clear h3 h4));exact ba (v:=ar #[aa ag an.err,aa ag an.n,ai an.text,ah pa na ca3]) (by simp[results,results14,go_sem,b0,b1,b2,b3]) rfl H4.out
end
section
variable {aS:aE}{W:aw}{B:aE}{s:Sy}{L:ja}
theorem Ql(h:cW aS W B s L)(cf cn cm:aF)(cp ct cx:aA)(ca:Bool)(ow:aE)(how:ow<4)(tG:cp.size<=1048576):ay aP 14 #[aj (aO B),ar #[aa ag 12,aa ag ow,aa ag cf,aa ag cn,aa ag cm,ai cp,ai ct,ai cx,aq ca]] W (ic aS B s (if s.uz cp=0 then s.wX cp else km (s.uz cp)) L W):=by
 have HS:ax (gL aS B s L W ⟨12,ow,cf,cn,cm,cp,ct,cx,ca⟩ _):=gL.start h _;have iG:∀ w,gL aS B s L W ⟨12,ow,cf,cn,cm,cp,ct,cx,ca⟩ w->ay aP 30 #[aj (aO B),ai cp,aq aI] w (jk (dV s.bA aI cp).1 (dV s.bA aI cp).2 w):=fun w hw=>by obtain⟨L1,h1,_⟩:=hw.ex;exact lU h1 cp tG _
 generalize hR:ic aS B _ _ L W=R at *;have HR:ax (_=R):=hR;have qu:ax ((dV s.bA aI cp).2.length<=80):=jI _ _ _;unfold Sy.uz Sy.wX at HR;generalize dV s.bA aI cp.data.toList=Q at iG qu HR;obtain⟨er,q⟩:=Q;simp only at iG qu HR;clear hR h;have g1:decide ((ow:aF)<0)=aH:=bD (by omega);have g2:decide (3<(ow:aF))=aH:=bD (by omega);go_enter func14,ntmps14;go_upto_region 0 with fail
 go_cut [3,4]from 3 to 4 (fun s3 s4 w=>s3=aj (aO W)/\s4=aj (aO ⟨↑W+1,0,aN⟩)/\ax (gL aS B s L W ⟨12,ow,cf,cn,cm,cp,ct,cx,ca⟩ w))
 case first=>
  go_wp2_with fail;go_meet
  case rel=>exact⟨rfl,rfl,HS.out⟩
 obtain⟨rfl,rfl,HO⟩:=hcut;clear HS;obtain⟨⟨k0,k1,k2,k3,k4,k5,k6,k7,k8⟩,kl⟩:=HO.cells;go_upto_region 16 with fail
 go_cut [5,6]from 19 to 69 (fun s5 s6 w=>∃ p:aA,s5=ai p/\s6=aa ag er/\ax (p.data.toList=q/\gL aS B s L W ⟨12,ow,cf,cn,cm,cp,ct,cx,ca⟩ w))
 case first=>
  go_wp2_with (go_at_call 30;refine(iG _ HO.out).mono ?_;rintro r w3 ⟨p,rfl,hp,hB⟩;have HP:ax _:=fB hp (HO.pure hB);clear hp hB);go_meet
  case rel=>exact⟨p,rfl,rfl,HP.out⟩
 obtain⟨p,rfl,rfl,HP⟩:=hcut;clear HO k0 k1 k2 k3 k4 k5 k6 k7 k8 kl iG g1 g2;have HO:ax _:=HP.2;obtain⟨⟨k0,k1,k2,k3,k4,k5,k6,k7,k8⟩,kl⟩:=HO.cells;by_cases ni:er=0;rotate_left
 ·have C3:(er != 0)=aI:=by simpa using ni
  go_wp2_with (go_at_call 27;refine(fP _ _).mono ?_;rintro r wb ⟨rfl,fR⟩;have HB:ax _:=HO.pure fR;obtain⟨⟨b0,b1,b2,b3⟩,z0,z1,z2,z3⟩:=cK HB.gz;clear fR);exact ba (v:=ar #[aa ag er,aa ag 0,ai ⟨#[]⟩,ah aN 0 0]) (by simp[results,results14,go_sem,b0,b1,b2,b3]) rfl (by rw[<- HR.out,aY ni,aW ni];exact HB.iT er 0 ⟨#[]⟩)
 subst ni;obtain⟨L1,h1,lj⟩:=HO.ex;obtain⟨_,_,c2,_⟩:=h1.cells;obtain⟨sn,ik⟩:∃ n,n=s.bA.length:=⟨_,rfl⟩
 rw[<- ik]at c2;have gI:=Ed s.bA p L1.ps sn L1.sc wc ik h1.data.now.bA (cY s.all) ((bW s.bA p).getD cR) (bW s.bA p).isSome rfl rfl;rw[HP.1]at gI;generalize (bW s.bA q).getD cR=e at gI HR;generalize (bW s.bA q).isSome=b at gI HR;obtain⟨ep,ek,et,eo⟩:=e;simp only at gI HR;have lB:=h1.lt;clear ik;go_upto_region 19 with fail
 go_cut [7,8]from 70 to 82 (fun s7 s8 w=>∃ E:aE,s7=aj (aO E)/\s8=aq b/\w.cell? ⟨E,1,aN⟩=aO (aa ag ek)/\w.cell? ⟨E,2,aN⟩=aO (ai et)/\ax (gL aS B s L W ⟨12,ow,cf,cn,cm,cp,ct,cx,ca⟩ w))
 case first=>
  go_wp2_with (go_at_call 31;refine gI.mono ?_;rintro r w4 ⟨rfl,eO⟩;have HB:ax _:=HO.pure eO;clear eO);go_meet
  case rel=>exact⟨_,rfl,rfl,by simp,by simp,HB.pure ((Grown.refl _).alloc _).below⟩
 clear gI c2 k0 k1 k2 k3 k4 k5 k6 k7 k8 kl HO h1 lB;obtain⟨E,rfl,rfl,E1,E2,HO⟩:=hcut;obtain⟨⟨k0,k1,k2,k3,k4,k5,k6,k7,k8⟩,kl⟩:=HO.cells;cases b
 ·go_wp2_with (go_at_call 27;refine(fP _ _).mono ?_;rintro r wb ⟨rfl,fR⟩;have HB:ax _:=HO.pure fR;obtain⟨⟨b0,b1,b2,b3⟩,z0,z1,z2,z3⟩:=cK HB.gz;clear fR)
  exact ba (v:=ar #[aa ag 6,aa ag 0,ai ⟨#[]⟩,ah aN 0 0]) (by simp[results,results14,go_sem,b0,b1,b2,b3]) rfl (by rw[<- HR.out,aW (by decide)];exact HB.iT 6 0 ⟨#[]⟩)
 ·obtain⟨⟨b0,b1,b2,b3⟩,z0,z1,z2,z3⟩:=cK HO.gz
  go_wp2_with fail;exact ba (v:=ar #[aa ag 0,aa ag ek,ai et,ah aN 0 0]) (by simp[results,results14,go_sem,b0,b1,b2,b3]) rfl (by rw[<- HR.out,aY (by decide)];exact HO.iT 0 ek et)
end
section
variable {aS:aE}{W:aw}{B:aE}{s:Sy}{L:ja}
theorem VT(t:List bP)(q:List UInt8)(h:¬ (l7 t q).2=0):(l7 t q).1=[]:=by unfold l7 at h ⊢;split at h<;>simp_all
theorem Qk(h:cW aS W B s L)(cf cn cm:aF)(cp ct cx:aA)(ca:Bool)(ow:aE)(how:ow<4)(tG:cp.size<=1048576):ay aP 14 #[aj (aO B),ar #[aa ag 11,aa ag ow,aa ag cf,aa ag cn,aa ag cm,ai cp,ai ct,ai cx,aq ca]] W (ic aS B s (if s.ug cp=0 then s.uf cp else km (s.ug cp)) L W):=by
 have HS:ax (gL aS B s L W ⟨11,ow,cf,cn,cm,cp,ct,cx,ca⟩ _):=gL.start h _;have iG:∀ w,gL aS B s L W ⟨11,ow,cf,cn,cm,cp,ct,cx,ca⟩ w->ay aP 30 #[aj (aO B),ai cp,aq aI] w (jk (dV s.bA aI cp).1 (dV s.bA aI cp).2 w):=fun w hw=>by obtain⟨L1,h1,_⟩:=hw.ex;exact lU h1 cp tG _
 generalize hR:ic aS B _ _ L W=R at *;have HR:ax (_=R):=hR;have qu:ax ((dV s.bA aI cp).2.length<=80):=jI _ _ _;unfold Sy.ug Sy.uf at HR;generalize dV s.bA aI cp.data.toList=Q at iG qu HR;obtain⟨er,q⟩:=Q;simp only at iG qu HR;clear hR h;have g1:decide ((ow:aF)<0)=aH:=bD (by omega);have g2:decide (3<(ow:aF))=aH:=bD (by omega);go_enter func14,ntmps14;go_upto_region 0 with fail
 go_cut [3,4]from 3 to 4 (fun s3 s4 w=>s3=aj (aO W)/\s4=aj (aO ⟨↑W+1,0,aN⟩)/\ax (gL aS B s L W ⟨11,ow,cf,cn,cm,cp,ct,cx,ca⟩ w))
 case first=>
  go_wp2_with fail;go_meet
  case rel=>exact⟨rfl,rfl,HS.out⟩
 obtain⟨rfl,rfl,HO⟩:=hcut;clear HS;obtain⟨⟨k0,k1,k2,k3,k4,k5,k6,k7,k8⟩,kl⟩:=HO.cells;go_upto_region 16 with fail
 go_cut [5,6]from 19 to 69 (fun s5 s6 w=>∃ p:aA,s5=ai p/\s6=aa ag er/\ax (p.data.toList=q/\gL aS B s L W ⟨11,ow,cf,cn,cm,cp,ct,cx,ca⟩ w))
 case first=>
  go_wp2_with (go_at_call 30;refine(iG _ HO.out).mono ?_;rintro r w3 ⟨p,rfl,hp,hB⟩;have HP:ax _:=fB hp (HO.pure hB);clear hp hB);go_meet
  case rel=>exact⟨p,rfl,rfl,HP.out⟩
 obtain⟨p,rfl,rfl,HP⟩:=hcut;clear HO k0 k1 k2 k3 k4 k5 k6 k7 k8 kl iG g1 g2;have HO:ax _:=HP.2;obtain⟨⟨k0,k1,k2,k3,k4,k5,k6,k7,k8⟩,kl⟩:=HO.cells;by_cases ni:er=0;rotate_left
 ·have C3:(er != 0)=aI:=by simpa using ni
  go_wp2_with (go_at_call 27;refine(fP _ _).mono ?_;rintro r wb ⟨rfl,fR⟩;have HB:ax _:=HO.pure fR;obtain⟨⟨b0,b1,b2,b3⟩,z0,z1,z2,z3⟩:=cK HB.gz;clear fR);exact ba (v:=ar #[aa ag er,aa ag 0,ai ⟨#[]⟩,ah aN 0 0]) (by simp[results,results14,go_sem,b0,b1,b2,b3]) rfl (by rw[<- HR.out,aY ni,aW ni];exact HB.iT er 0 ⟨#[]⟩)
 subst ni;obtain⟨L1,h1,lj⟩:=HO.ex;obtain⟨_,_,c2,_⟩:=h1.cells;obtain⟨sn,ik⟩:∃ n,n=s.bA.length:=⟨_,rfl⟩
 rw[<- ik]at c2;have gI:=Ed s.bA p L1.ps sn L1.sc wc ik h1.data.now.bA (cY s.all) ((bW s.bA p).getD cR) (bW s.bA p).isSome rfl rfl;rw[HP.1]at gI;generalize (bW s.bA q).getD cR=e at gI HR;generalize (bW s.bA q).isSome=b at gI HR;obtain⟨ep,ek,et,eo⟩:=e;simp only at gI HR;have lB:=h1.lt;clear ik;go_upto_region 19 with fail
 go_cut [7,8]from 70 to 82 (fun s7 s8 w=>∃ E:aE,s7=aj (aO E)/\s8=aq b/\w.cell? ⟨E,1,aN⟩=aO (aa ag ek)/\w.cell? ⟨E,2,aN⟩=aO (ai et)/\ax (gL aS B s L W ⟨11,ow,cf,cn,cm,cp,ct,cx,ca⟩ w))
 case first=>
  go_wp2_with (go_at_call 31;refine gI.mono ?_;rintro r w4 ⟨rfl,eO⟩;have HB:ax _:=HO.pure eO;clear eO);go_meet
  case rel=>exact⟨_,rfl,rfl,by simp,by simp,HB.pure ((Grown.refl _).alloc _).below⟩
 clear gI c2 k0 k1 k2 k3 k4 k5 k6 k7 k8 kl HO h1 lB;obtain⟨E,rfl,rfl,E1,E2,HO⟩:=hcut;obtain⟨⟨k0,k1,k2,k3,k4,k5,k6,k7,k8⟩,kl⟩:=HO.cells;obtain⟨L1,h1,lj⟩:=HO.ex;obtain⟨_,_,c2,_⟩:=h1.cells;obtain⟨sn,ik⟩:∃ n,n=s.bA.length:=⟨_,rfl⟩
 rw[<- ik]at c2;have Si:=acz s.bA p L1.ps sn L1.sc wc ik h1.data.now.bA (cY s.all);rw[HP.1]at Si;have iy:ax (cW aS wc B s L1/\(∀ b,gV B L1 b->gV B L b\/W.heap.size<=b)/\L1.ex=fun b=>b=W.heap.size+1\/L.ex b):=⟨h1,lj⟩
 have HN:ax (¬ (l7 s.bA q).2=0->(l7 s.bA q).1=[]):=VT s.bA q;generalize l7 s.bA q=R2 at Si HR HN;obtain⟨nm,le⟩:=R2;simp only at Si HR HN;have lB:=h1.lt;clear ik h1 lj;go_wp2_with (go_at_call 37;refine Si.mono ?_;clear Si;rintro r w5 ⟨pn,kn,cn5,bs,rfl,fA,H5⟩;have HB:ax _:=HO.pure fA;have tE:ax (au wc wc w5):=fA;obtain⟨⟨b0,b1,b2,b3⟩,z0,z1,z2,z3⟩:=cK HB.gz;clear fA);exact ba (v:=ar #[aa ag le,aa ag 0,ai ⟨#[]⟩,ah pn kn cn5]) (by simp[results,results14,go_sem,b0,b1,b2,b3]) rfl (by
  have hk:=iy.1.bB tE.out;have:=HB.ret (an:=⟨le,0,⟨#[]⟩,nm⟩) (bs:=bs) H5.2.1 H5.1 H5.2.2.1 H5.2.2.2.1 ⟨hk,iy.2⟩ (jy.st H5.2.2.2.2.1 fun b off sp e hb=>by have:=H5.2.2.2.2.2 b off sp e;have:=(iy.1.Mz hb).2;omega);rw[<- HR.out];by_cases hz:le=0
  ·subst hz
   exact this
  ·have hn:nm=[]:=HN.out hz
   subst hn;first|exact this|(rw[aW hz];exact this)|(simp[hz];exact this))
end
section
variable {aS:aE}{W:aw}{B:aE}{s:Sy}{L:ja}
theorem MQ(h:cW aS W B s L)(cf cn cm:aF)(cp ct cx:aA)(ca:Bool)(ow:aE)(how:ow<4)(tG:cp.size<=1048576)(h0:(bH s.all).1=0):ay aP 14 #[aj (aO B),ar #[aa ag 6,aa ag ow,aa ag cf,aa ag cn,aa ag cm,ai cp,ai ct,ai cx,aq ca]] W (ic aS B (if s.mB cp 2 ⟨#[]⟩=0 then s.di (cZ s.up (s.nu cp 2 ⟨#[]⟩)) s.cq else s) (if s.mB cp 2 ⟨#[]⟩=0 then gz 0 ⟨#[]⟩else km (s.mB cp 2 ⟨#[]⟩)) L W):=by
 have HS:ax (gL aS B s L W ⟨6,ow,cf,cn,cm,cp,ct,cx,ca⟩ _):=gL.start h _;have iG:∀ w,gL aS B s L W ⟨6,ow,cf,cn,cm,cp,ct,cx,ca⟩ w->ay aP 30 #[aj (aO B),ai cp,aq aH] w (jk (dV s.bA aH cp).1 (dV s.bA aH cp).2 w):=fun w hw=>by obtain⟨L1,h1,_⟩:=hw.ex;exact lU h1 cp tG _
 generalize hR:ic aS B _ _ L W=R at *;have HR:ax (_=R):=hR;have qu:ax ((dV s.bA aH cp).2.length<=80):=jI _ _ _;unfold Sy.mB Sy.nu at HR;generalize dV s.bA aH cp.data.toList=Q at iG qu HR;obtain⟨er,q⟩:=Q;simp only at iG qu HR;clear hR h;have g1:decide ((ow:aF)<0)=aH:=bD (by omega);have g2:decide (3<(ow:aF))=aH:=bD (by omega);go_enter func14,ntmps14;go_upto_region 0 with fail
 go_cut [3,4]from 3 to 4 (fun s3 s4 w=>s3=aj (aO W)/\s4=aj (aO ⟨↑W+1,0,aN⟩)/\ax (gL aS B s L W ⟨6,ow,cf,cn,cm,cp,ct,cx,ca⟩ w))
 case first=>
  go_wp2_with fail;go_meet
  case rel=>exact⟨rfl,rfl,HS.out⟩
 obtain⟨rfl,rfl,HO⟩:=hcut;clear HS;obtain⟨⟨k0,k1,k2,k3,k4,k5,k6,k7,k8⟩,kl⟩:=HO.cells;go_upto_region 16 with fail
 go_cut [5,6]from 19 to 69 (fun s5 s6 w=>∃ p:aA,s5=ai p/\s6=aa ag er/\ax (p.data.toList=q/\gL aS B s L W ⟨6,ow,cf,cn,cm,cp,ct,cx,ca⟩ w))
 case first=>
  go_wp2_with (go_at_call 30;refine(iG _ HO.out).mono ?_;rintro r w3 ⟨p,rfl,hp,hB⟩;have HP:ax _:=fB hp (HO.pure hB);clear hp hB);go_meet
  case rel=>exact⟨p,rfl,rfl,HP.out⟩
 obtain⟨p,rfl,rfl,HP⟩:=hcut;clear HO k0 k1 k2 k3 k4 k5 k6 k7 k8 kl iG g1 g2;have HO:ax _:=HP.2;obtain⟨⟨k0,k1,k2,k3,k4,k5,k6,k7,k8⟩,kl⟩:=HO.cells;by_cases ni:er=0;rotate_left
 ·have C3:(er != 0)=aI:=by simpa using ni
  go_wp2_with (go_at_call 27;refine(fP _ _).mono ?_;rintro r wb ⟨rfl,fR⟩;have HB:ax _:=HO.pure fR;obtain⟨⟨b0,b1,b2,b3⟩,z0,z1,z2,z3⟩:=cK HB.gz;clear fR);exact ba (v:=ar #[aa ag er,aa ag 0,ai ⟨#[]⟩,ah aN 0 0]) (by simp[results,results14,go_sem,b0,b1,b2,b3]) rfl (by rw[<- HR.out,aY ni,aW ni,aW ni];exact HB.iT er 0 ⟨#[]⟩)
 subst ni;obtain⟨L1,h1,lj⟩:=HO.ex;obtain⟨_,_,c2,_⟩:=h1.cells;obtain⟨sn,ik⟩:∃ n,n=s.bA.length:=⟨_,rfl⟩
 rw[<- ik]at c2;have gI:=Ed s.bA p L1.ps sn L1.sc wc ik h1.data.now.bA (cY s.all) ((bW s.bA p).getD cR) (bW s.bA p).isSome rfl rfl;rw[HP.1]at gI;generalize (bW s.bA q).getD cR=e at gI HR;generalize (bW s.bA q).isSome=b at gI HR;obtain⟨ep,ek,et,eo⟩:=e;simp only at gI HR;have lB:=h1.lt;clear ik;go_upto_region 19 with fail
 go_cut [7,8]from 70 to 82 (fun s7 s8 w=>∃ E:aE,s7=aj (aO E)/\s8=aq b/\w.cell? ⟨E,1,aN⟩=aO (aa ag ek)/\w.cell? ⟨E,2,aN⟩=aO (ai et)/\ax (gL aS B s L W ⟨6,ow,cf,cn,cm,cp,ct,cx,ca⟩ w))
 case first=>
  go_wp2_with (go_at_call 31;refine gI.mono ?_;rintro r w4 ⟨rfl,eO⟩;have HB:ax _:=HO.pure eO;clear eO);go_meet
  case rel=>exact⟨_,rfl,rfl,by simp,by simp,HB.pure ((Grown.refl _).alloc _).below⟩
 clear gI c2 k0 k1 k2 k3 k4 k5 k6 k7 k8 kl HO h1 lB;obtain⟨E,rfl,rfl,E1,E2,HO⟩:=hcut;obtain⟨⟨k0,k1,k2,k3,k4,k5,k6,k7,k8⟩,kl⟩:=HO.cells;cases b;rotate_left
 ·go_wp2_with (go_at_call 27;refine(fP _ _).mono ?_;rintro r wb ⟨rfl,fR⟩;have HB:ax _:=HO.pure fR;obtain⟨⟨b0,b1,b2,b3⟩,z0,z1,z2,z3⟩:=cK HB.gz;clear fR)
  exact ba (v:=ar #[aa ag 7,aa ag 0,ai ⟨#[]⟩,ah aN 0 0]) (by simp[results,results14,go_sem,b0,b1,b2,b3]) rfl (by rw[<- HR.out];simp only[oH,pk,mU,Int.reduceEq];exact HB.iT 7 0 ⟨#[]⟩)
 obtain⟨L2,HL⟩:=HO.ex;have h1:=HL.1;obtain⟨c0,c1,_⟩:=h1.cells;obtain⟨yn,ku⟩:∃ n,n=L2.y.es.length:=⟨_,rfl⟩
 obtain⟨ln,ka⟩:∃ n,n=L2.lo.length:=⟨_,rfl⟩
 have Ak:p.size<=80:=by have:=qu.out;rw[<- ix,HP.1];exact this
 have rh:=fun Y (hY:au wc.heap.size wc Y)=>GM (W:=Y) (pl:=L2.pl) (cl:=L2.cl) ⟨p,2,⟨#[]⟩,aH⟩ ku ka ((h1.data.now.un).bB hY) (by rw[h1.up,h1.low];exact h0) (by show p.size<=_;omega) (by show(0:aE)<=_;omega)
 rw[h1.up,h1.low]at rh;have iM:=fun e=>(oB (up:=s.up) (cq:=s.cq) (e:=⟨p,2,⟨#[]⟩,aH⟩) e).1
 have HE:ax (∀ ae,dg (bH (s.up::s.cq)).1 (dW (cO (s.up::s.cq)) ⟨p,2,⟨#[]⟩,aH⟩) (cZ s.up ⟨p,2,⟨#[]⟩,aH⟩).length=ae->R=ic aS B (if ae=0 then s.di (cZ s.up ⟨p,2,⟨#[]⟩,aH⟩) s.cq else s) ⟨ae,0,⟨#[]⟩,[]⟩ L W):=fun ae e=>by
  have rb:fU q=p:=fV (by rw[HP.1];simp[fU]);rw[<- HR.out,rb];have e':dg (bH s.all).1 (dW s.bA ⟨p,2,⟨#[]⟩,aH⟩) (cZ s.up ⟨p,2,⟨#[]⟩,aH⟩).length=ae:=e;simp only[oH,pk,dI,e'];by_cases hz:ae=0
  ·rw[aY hz,aY hz,hz];rfl
  ·rw[aW hz,aW hz];rfl
 rw[<- ku]at c0;rw[<- ka]at c1;have HH:ax ((cW aS wc B s L2/\(∀ b,gV B L2 b->gV B L b\/W.heap.size<=b)/\L2.ex=fun b=>b=W.heap.size+1\/L.ex b)/\ln=L2.lo.length):=⟨HL,ka⟩
 have lB:=h1.lt;generalize cZ s.up ⟨p,2,⟨#[]⟩,aH⟩=up at rh iM HE;generalize dg (bH (s.up::s.cq)).1 (dW (cO (s.up::s.cq)) ⟨p,2,⟨#[]⟩,aH⟩) up.length=ae at rh iM HE;have HE:=HE.out ae rfl;have HF:ax (R=ic aS B (if ae=0 then s.di up s.cq else s) ⟨ae,0,⟨#[]⟩,[]⟩ L W/\(ae=0->(bH (up::s.cq)).1=0)):=⟨HE,iM⟩
 clear HL h1 ku ka HE HR iM;go_upto_region 25 with fail
 go_cut [9]from 88 to 91 (fun s9 w=>∃ E9:aE,s9=aj (aO E9)/\wc<=E9/\w.heap[E9]?=aO (aM #[ai p,aa ag 2,ai ⟨#[]⟩,aq aH] 88)/\ax (au wc wc w))
 case first=>
  go_wp2_with fail;go_meet
  case rel=>exact⟨_,rfl,aV _,heap_alloc_last _ _,((Grown.refl _).alloc _).below⟩
 obtain⟨E9,rfl,ZU,h9,FJ⟩:=hcut;obtain⟨⟨y0,y1,y2,y3⟩,_⟩:=cK h9;have c0:=(FJ.cell (p:=B) lB).trans c0;have c1:=(FJ.cell (p:=⟨B,1,aN⟩) lB).trans c1;have k0:=(FJ.cell (p:=W) (show W.heap.size<_ by omega)).trans k0;replace HO:=show ax _ from HO.pure FJ.out
 have GY:ax (cW aS wc B s L2):=HH.1.1.bB FJ.out;clear h9;go_wp2_with fail;go_region_with (first
  | (go_at_call 32;refine(rh _ FJ.drew).mono ?_;clear rh;rintro r w4 ⟨pp,n4,c4,vp,vk,ve,rfl,eO,H4⟩;have kT:ax (au wc wc w4/\wc.drew.heap.size=wc):=⟨Below.bK (aR _ _).drew eO,rfl⟩;clear eO)
  | (go_at_call 13;refine(wY GY.out kT.1 (fun e=>by obtain⟨a1,a2,a3,a4,a5,a6,a7,a8⟩:=H4.out e;exact⟨a1,a2,a3.trans HH.2,a4,a5,a6,a7,a8⟩) HF.2).mono ?_;rintro r w5 ⟨rfl,D1⟩;have UY:ax _:=HO.step ⟨GY.out,HH.1.2⟩ D1.post;clear D1)
  | (go_at_call 27;refine(fP _ _).mono ?_;rintro r wb ⟨rfl,fR⟩;have HB:ax _:=UY.pure fR;obtain⟨⟨b0,b1,b2,b3⟩,z0,z1,z2,z3⟩:=cK HB.gz;clear fR))
 all_goals
  go_wp2_with fail;exact ba (v:=ar #[aa ag ae,aa ag 0,ai ⟨#[]⟩,ah aN 0 0]) (by simp[results,results14,go_sem,b0,b1,b2,b3]) rfl (by rw[HF.1];exact HB.iT ae 0 ⟨#[]⟩)
end
section
variable {aS:aE}{W:aw}{B:aE}{s:Sy}{L:ja}
theorem Qj(h:cW aS W B s L)(cf cn cm:aF)(cp ct cx:aA)(ca:Bool)(ow:aE)(how:ow<4)(tG:cp.size<=1048576)(h0:(bH s.all).1=0)(Nq:ct.size<=1048576):ay aP 14 #[aj (aO B),ar #[aa ag 10,aa ag ow,aa ag cf,aa ag cn,aa ag cm,ai cp,ai ct,ai cx,aq ca]] W (ic aS B (if s.mB cp 3 ct=0 then s.di (cZ s.up (s.nu cp 3 ct)) s.cq else s) (if s.mB cp 3 ct=0 then gz 0 ⟨#[]⟩else km (s.mB cp 3 ct)) L W):=by
 have HS:ax (gL aS B s L W ⟨10,ow,cf,cn,cm,cp,ct,cx,ca⟩ _):=gL.start h _;have iG:∀ w,gL aS B s L W ⟨10,ow,cf,cn,cm,cp,ct,cx,ca⟩ w->ay aP 30 #[aj (aO B),ai cp,aq aH] w (jk (dV s.bA aH cp).1 (dV s.bA aH cp).2 w):=fun w hw=>by obtain⟨L1,h1,_⟩:=hw.ex;exact lU h1 cp tG _
 generalize hR:ic aS B _ _ L W=R at *;have HR:ax (_=R):=hR;have qu:ax ((dV s.bA aH cp).2.length<=80):=jI _ _ _;unfold Sy.mB Sy.nu at HR;generalize dV s.bA aH cp.data.toList=Q at iG qu HR;obtain⟨er,q⟩:=Q;simp only at iG qu HR;clear hR h;have g1:decide ((ow:aF)<0)=aH:=bD (by omega);have g2:decide (3<(ow:aF))=aH:=bD (by omega);go_enter func14,ntmps14;go_upto_region 0 with fail
 go_cut [3,4]from 3 to 4 (fun s3 s4 w=>s3=aj (aO W)/\s4=aj (aO ⟨↑W+1,0,aN⟩)/\ax (gL aS B s L W ⟨10,ow,cf,cn,cm,cp,ct,cx,ca⟩ w))
 case first=>
  go_wp2_with fail;go_meet
  case rel=>exact⟨rfl,rfl,HS.out⟩
 obtain⟨rfl,rfl,HO⟩:=hcut;clear HS;obtain⟨⟨k0,k1,k2,k3,k4,k5,k6,k7,k8⟩,kl⟩:=HO.cells;go_upto_region 16 with fail
 go_cut [5,6]from 19 to 69 (fun s5 s6 w=>∃ p:aA,s5=ai p/\s6=aa ag er/\ax (p.data.toList=q/\gL aS B s L W ⟨10,ow,cf,cn,cm,cp,ct,cx,ca⟩ w))
 case first=>
  go_wp2_with (go_at_call 30;refine(iG _ HO.out).mono ?_;rintro r w3 ⟨p,rfl,hp,hB⟩;have HP:ax _:=fB hp (HO.pure hB);clear hp hB);go_meet
  case rel=>exact⟨p,rfl,rfl,HP.out⟩
 obtain⟨p,rfl,rfl,HP⟩:=hcut;clear HO k0 k1 k2 k3 k4 k5 k6 k7 k8 kl iG g1 g2;have HO:ax _:=HP.2;obtain⟨⟨k0,k1,k2,k3,k4,k5,k6,k7,k8⟩,kl⟩:=HO.cells;by_cases ni:er=0;rotate_left
 ·have C3:(er != 0)=aI:=by simpa using ni
  go_wp2_with (go_at_call 27;refine(fP _ _).mono ?_;rintro r wb ⟨rfl,fR⟩;have HB:ax _:=HO.pure fR;obtain⟨⟨b0,b1,b2,b3⟩,z0,z1,z2,z3⟩:=cK HB.gz;clear fR);exact ba (v:=ar #[aa ag er,aa ag 0,ai ⟨#[]⟩,ah aN 0 0]) (by simp[results,results14,go_sem,b0,b1,b2,b3]) rfl (by rw[<- HR.out,aY ni,aW ni,aW ni];exact HB.iT er 0 ⟨#[]⟩)
 subst ni;obtain⟨L1,h1,lj⟩:=HO.ex;obtain⟨_,_,c2,_⟩:=h1.cells;obtain⟨sn,ik⟩:∃ n,n=s.bA.length:=⟨_,rfl⟩
 rw[<- ik]at c2;have gI:=Ed s.bA p L1.ps sn L1.sc wc ik h1.data.now.bA (cY s.all) ((bW s.bA p).getD cR) (bW s.bA p).isSome rfl rfl;rw[HP.1]at gI;generalize (bW s.bA q).getD cR=e at gI HR;generalize (bW s.bA q).isSome=b at gI HR;obtain⟨ep,ek,et,eo⟩:=e;simp only at gI HR;have lB:=h1.lt;clear ik;go_upto_region 19 with fail
 go_cut [7,8]from 70 to 82 (fun s7 s8 w=>∃ E:aE,s7=aj (aO E)/\s8=aq b/\w.cell? ⟨E,1,aN⟩=aO (aa ag ek)/\w.cell? ⟨E,2,aN⟩=aO (ai et)/\ax (gL aS B s L W ⟨10,ow,cf,cn,cm,cp,ct,cx,ca⟩ w))
 case first=>
  go_wp2_with (go_at_call 31;refine gI.mono ?_;rintro r w4 ⟨rfl,eO⟩;have HB:ax _:=HO.pure eO;clear eO);go_meet
  case rel=>exact⟨_,rfl,rfl,by simp,by simp,HB.pure ((Grown.refl _).alloc _).below⟩
 clear gI c2 k0 k1 k2 k3 k4 k5 k6 k7 k8 kl HO h1 lB;obtain⟨E,rfl,rfl,E1,E2,HO⟩:=hcut;obtain⟨⟨k0,k1,k2,k3,k4,k5,k6,k7,k8⟩,kl⟩:=HO.cells;cases b;rotate_left
 ·go_wp2_with (go_at_call 27;refine(fP _ _).mono ?_;rintro r wb ⟨rfl,fR⟩;have HB:ax _:=HO.pure fR;obtain⟨⟨b0,b1,b2,b3⟩,z0,z1,z2,z3⟩:=cK HB.gz;clear fR)
  exact ba (v:=ar #[aa ag 7,aa ag 0,ai ⟨#[]⟩,ah aN 0 0]) (by simp[results,results14,go_sem,b0,b1,b2,b3]) rfl (by rw[<- HR.out];simp only[oH,pk,mU,Int.reduceEq];exact HB.iT 7 0 ⟨#[]⟩)
 obtain⟨L2,HL⟩:=HO.ex;have h1:=HL.1;obtain⟨c0,c1,_⟩:=h1.cells;obtain⟨yn,ku⟩:∃ n,n=L2.y.es.length:=⟨_,rfl⟩
 obtain⟨ln,ka⟩:∃ n,n=L2.lo.length:=⟨_,rfl⟩
 have Ak:p.size<=80:=by have:=qu.out;rw[<- ix,HP.1];exact this
 have rh:=fun Y (hY:au wc.heap.size wc Y)=>GM (W:=Y) (pl:=L2.pl) (cl:=L2.cl) ⟨p,3,ct,aH⟩ ku ka ((h1.data.now.un).bB hY) (by rw[h1.up,h1.low];exact h0) (by show p.size<=_;omega) (by exact Nq)
 rw[h1.up,h1.low]at rh;have iM:=fun e=>(oB (up:=s.up) (cq:=s.cq) (e:=⟨p,3,ct,aH⟩) e).1
 have HE:ax (∀ ae,dg (bH (s.up::s.cq)).1 (dW (cO (s.up::s.cq)) ⟨p,3,ct,aH⟩) (cZ s.up ⟨p,3,ct,aH⟩).length=ae->R=ic aS B (if ae=0 then s.di (cZ s.up ⟨p,3,ct,aH⟩) s.cq else s) ⟨ae,0,⟨#[]⟩,[]⟩ L W):=fun ae e=>by
  have rb:fU q=p:=fV (by rw[HP.1];simp[fU]);rw[<- HR.out,rb];have e':dg (bH s.all).1 (dW s.bA ⟨p,3,ct,aH⟩) (cZ s.up ⟨p,3,ct,aH⟩).length=ae:=e;simp only[oH,pk,dI,e'];by_cases hz:ae=0
  ·rw[aY hz,aY hz,hz];rfl
  ·rw[aW hz,aW hz];rfl
 rw[<- ku]at c0;rw[<- ka]at c1;have HH:ax ((cW aS wc B s L2/\(∀ b,gV B L2 b->gV B L b\/W.heap.size<=b)/\L2.ex=fun b=>b=W.heap.size+1\/L.ex b)/\ln=L2.lo.length):=⟨HL,ka⟩
 have lB:=h1.lt;generalize cZ s.up ⟨p,3,ct,aH⟩=up at rh iM HE;generalize dg (bH (s.up::s.cq)).1 (dW (cO (s.up::s.cq)) ⟨p,3,ct,aH⟩) up.length=ae at rh iM HE;have HE:=HE.out ae rfl;have HF:ax (R=ic aS B (if ae=0 then s.di up s.cq else s) ⟨ae,0,⟨#[]⟩,[]⟩ L W/\(ae=0->(bH (up::s.cq)).1=0)):=⟨HE,iM⟩
 clear HL h1 ku ka HE HR iM;go_upto_region 25 with fail
 go_cut [9]from 88 to 91 (fun s9 w=>∃ E9:aE,s9=aj (aO E9)/\wc<=E9/\w.heap[E9]?=aO (aM #[ai p,aa ag 2,ai ⟨#[]⟩,aq aH] 88)/\ax (au wc wc w))
 case first=>
  go_wp2_with fail;go_meet
  case rel=>exact⟨_,rfl,aV _,heap_alloc_last _ _,((Grown.refl _).alloc _).below⟩
 obtain⟨E9,rfl,ZU,h9,FJ⟩:=hcut;have k0':=(FJ.cell (p:=W) (show W.heap.size<_ by omega)).trans k0;have k6':=(FJ.cell (p:=⟨W,6,aN⟩) (show W.heap.size<_ by omega)).trans k6;obtain⟨⟨y0,y1,y2,y3⟩,u0,u1,u2,u3⟩:=cK h9;have FI:ax (∀ w,au wc wc w->au _ _ w):=fun w hw=>Below.bK FJ.out hw
 have HE9:ax (_<=E9):=ZU;have xO:ax (au _ _ ((((wc.setCell E9 (ai p)).setCell ⟨E9,1,aN⟩ (aa ag 3)).setCell ⟨E9,2,aN⟩ (ai ct)).setCell ⟨E9,3,aN⟩ (aq aH))):=(((FJ.setCell (p:=E9) ZU _).setCell (p:=⟨E9,1,aN⟩) ZU _).setCell (p:=⟨E9,2,aN⟩) ZU _).setCell (p:=⟨E9,3,aN⟩) ZU _;have h10:=dZ (dZ (dZ (dZ h9 0 (ai p)) 1 (aa ag 3)) 2 (ai ct)) 3 (aq aH);have H10:ax _:=h10;clear h10 h9 FI;go_upto_if 94 with fail
 go_cut []from 92 to 98 (fun w=>ax (w.heap[E9]?=aO (aM #[ai p,aa ag 3,ai ct,aq aH] 88))/\ax (au _ _ w))
 case first=>
  go_wp2_with fail;go_meet
  case rel=>exact⟨H10.out,xO.out⟩
 clear FJ y0 y1 y2 y3 u0 u1 u2 u3 k0' k6';obtain⟨H11,FJ⟩:=hcut;have h9:=H11.out;obtain⟨⟨y0,y1,y2,y3⟩,_⟩:=cK h9;have c0:=(FJ.cell (p:=B) lB).trans c0;have c1:=(FJ.cell (p:=⟨B,1,aN⟩) lB).trans c1;have k0:=(FJ.cell (p:=W) (show W.heap.size<_ by omega)).trans k0;replace HO:=show ax _ from HO.pure FJ.out
 have GY:ax (cW aS wc B s L2):=HH.1.1.bB FJ.out;clear h9;go_wp2_with fail;go_region_with (first
  | (go_at_call 32;refine(rh _ FJ.drew).mono ?_;clear rh;rintro r w4 ⟨pp,n4,c4,vp,vk,ve,rfl,eO,H4⟩;have kT:ax (au wc wc w4/\wc.drew.heap.size=wc):=⟨Below.bK (aR _ _).drew eO,rfl⟩;clear eO)
  | (go_at_call 13;refine(wY GY.out kT.1 (fun e=>by obtain⟨a1,a2,a3,a4,a5,a6,a7,a8⟩:=H4.out e;exact⟨a1,a2,a3.trans HH.2,a4,a5,a6,a7,a8⟩) HF.2).mono ?_;rintro r w5 ⟨rfl,D1⟩;have UY:ax _:=HO.step ⟨GY.out,HH.1.2⟩ D1.post;clear D1)
  | (go_at_call 27;refine(fP _ _).mono ?_;rintro r wb ⟨rfl,fR⟩;have HB:ax _:=UY.pure fR;obtain⟨⟨b0,b1,b2,b3⟩,z0,z1,z2,z3⟩:=cK HB.gz;clear fR))
 all_goals
  go_wp2_with fail;exact ba (v:=ar #[aa ag ae,aa ag 0,ai ⟨#[]⟩,ah aN 0 0]) (by simp[results,results14,go_sem,b0,b1,b2,b3]) rfl (by rw[HF.1];exact HB.iT ae 0 ⟨#[]⟩)
end
section
variable {w W wx wy:aw}{y:Lay}{lo:List Lay}{pl:Option Addr}{cl yn ln:aE}
theorem TG(q:aA)(ku:yn=y.es.length)(ka:ln=lo.length)(hU:eZ W y lo pl cl)(h0:(bH (y.es::lo.map (·.es))).1=0)(hq:q.size<=1048576):ay aP 33 #[ar #[ah y.ad yn y.cap,ah pl ln cl],ai q] W (Hs (dg (bH (y.es::lo.map (·.es))).1 (eP (cO (y.es::lo.map (·.es))) q) (ec y.es (bG (lo.map (·.es))).2 q).length) (ec y.es (bG (lo.map (·.es))).2 q) pl ln cl W):=by
 obtain⟨sn,ik⟩:=ee ((cO (y.es::lo.map (·.es))).length)
 have Gh:=fun X (hX:au W.heap.size W X)=>GN (hU.bB hX) h0 ku ka ik
 have kG:=fun X p c (hL:bI X p (cO (y.es::lo.map (·.es)))) (hc:sn<=c)=>TH _ q p sn c X ik (cY _) hL hc (by unfold maxLen;omega)
 have rU:=fun X (hX:au W.heap.size W X)=>qQ lo pl cl X (hU.anO.bB hX) (fun x hx=>(hU.each x hx).1.bB hX) (fun x hx=>zJ h0 x (jc _ hx))
 rw[(mR h0).2.2.2.2.2,<- ka]at rU;obtain⟨bn,Hc⟩:=ee ((bG (lo.map (·.es))).2.length)
 have Ao:=fun(hz:eP (cO (y.es::lo.map (·.es))) q.data.toList=0) X pb cb (hX:au W W X) (yB:bI X pb (bG (lo.map (·.es))).2)=>by obtain⟨hq0,BV⟩:=Ty (cY _) hz;have:=(mR h0).2.1.len;have:=(mR h0).2.2.1.len;exact Mq y.es (bG (lo.map (·.es))).2 q y.ad y.cap pb yn bn cb X ku Hc (hU.up.bB hX).anO yB (tB (mR h0).2.1) (by omega) hq0 hq (by rw[<- ix];omega)
 replace rU:∀ X,au W W X->ay aP 25 #[ah pl ln cl] X fun r w'=>∃ p c,r=.returned (aL #[ah p bn c,aa ag (jO (lo.map (·.es))).1])/\bI w' p (bG (lo.map (·.es))).2/\au X.heap.size X w':=fun X hX=>(rU X hX).mono fun r w' ⟨p,c,h1,h2,_,_,h3,_⟩=>⟨p,c,by rw[Hc];exact h1,h2,h3⟩
 have HE:ax (dg (bH (y.es::lo.map (·.es))).1 (eP (cO (y.es::lo.map (·.es))) q) (ec y.es (bG (lo.map (·.es))).2 q).length=if(eP (cO (y.es::lo.map (·.es))) q)=0 then(if 80<(ec y.es (bG (lo.map (·.es))).2 q).length then 5 else 0)else eP (cO (y.es::lo.map (·.es))) q):=by show _=_;rw[dg,aY h0]
 generalize dg _ _ _=ch at HE ⊢;generalize ec y.es _ q=up at Ao HE ⊢;generalize eP _ q.data.toList=ae at kG Ao HE;generalize (bG _).2=Bl at rU Ao;generalize (jO _).1=me at rU;generalize cO _=sl at *;obtain⟨un,nI⟩:=ee up.length
 rw[<- nI]at HE;have U3:ax (un=up.length):=nI;clear ik ku ka hU h0 nI Hc;go_enter func33,ntmps33;go_upto_region 0 with fail
 go_cut [2,4,5]from 2 to 5 (fun s2 s4 s5 wx=>∃ R,s2=aj (aO W)/\s4=aj (aO ⟨R,0,aN⟩)/\s5=aa ag 0/\ax (UB W (ah y.ad yn y.cap) (ah pl ln cl) R wx))
 case first=>
  go_wp2_with fail;go_meet
  case rel=>exact⟨_,rfl,rfl,rfl,UB.new W _ _⟩
 obtain⟨R,rfl,rfl,rfl,HR⟩:=hcut;obtain⟨⟨u0,u1⟩,_⟩:=HR.cells;go_upto_region 8 with(first
  | (go_at_call 26;refine(Gh _ HR.low).mono ?_;clear Gh;rintro rr w1 ⟨p1,c1,rfl,H1,hN⟩;replace HR:ax (UB W _ _ R w1):=HR.on hN;clear u0 u1 hN)
  | (go_at_call 62;refine(kG _ p1 c1 H1.1 H1.2.1).mono ?_;clear kG;rintro rr w2 ⟨⟨v2,rfl⟩,hN⟩;replace HR:ax (UB W _ _ R w2):=HR.on hN;obtain⟨⟨u0,u1⟩,⟨r0,r1⟩,⟨g0,g1⟩,⟨n0,n1⟩,n2,n3⟩:=HR.cells;clear hN)
  | (go_at_call 25;refine(rU _ HR.low).mono ?_;clear rU;rintro rr w5 ⟨pb,cb,rfl,yB,hN⟩;replace HR:ax (UB W _ _ R w5):=HR.on hN;have HLB:ax (bI w5 pb Bl):=yB;clear u0 u1 r0 r1 g0 g1 n2 n3;obtain⟨⟨u0,u1⟩,⟨r0,r1⟩,⟨g0,g1⟩,_,n2,n3⟩:=HR.cells;clear hN yB))
 ·have hz:¬ ae=0:=by simpa using ‹(ae != 0)=aI›
  obtain⟨⟨x0,x1⟩,_⟩:=HR.done (ah aN 0 0) (ah aN 0 0);refine ba (v:=aL #[ar #[ah aN 0 0,ah aN 0 0],aa ag ae]) (by simp[results,results33,go_sem,x0,x1]) rfl ?_;rw[HE.out,aW hz];exact HR.end fun e=>absurd e hz
 have hz:ae=0:=by simpa using ‹(ae != 0)=aH›
 have hs:=fun X (hX:au w5.heap.size w5 X)=>Ao hz X pb cb (Below.bK HR.low hX) (HLB.bB hX)
 obtain⟨de,wN⟩:∃ de:aF,de=if 80<un then 5 else 0:=⟨_,rfl⟩
 have HC:ax (ch=de/\de=if 80<un then 5 else 0):=⟨by rw[HE.out,aY hz,wN],wN⟩
 have HB:ax (UB W _ _ R w5):=HR.out;clear HR HE Ao wN;go_region_with (first
  | (go_at_call 63;refine(hs _ (aR _ _).drew).mono ?_;clear hs;rintro rr w3 ⟨⟨v3,rfl,yC⟩,hN⟩;obtain⟨p3,c3,rfl,pK,zP,DZ,zf⟩:=qm U3.out yC;have H3:ax (bI w3 p3 up/\un<=c3/\(p3=aN->c3=0)/\∀ b off sp,p3=aO ⟨b,off,sp⟩->W.heap.size<=b/\b≠R):=⟨pK,zP,DZ,fun b off sp e=>(by have:=zf b off sp e;have:=HB.cells.2.2.2.2;have:w5.drew.heap.size=w5.heap.size:=rfl;omega)⟩;replace HB:ax (UB W _ _ R w3):=(HB.on (aR _ _).drew).on hN;clear u0 u1 r0 r1 g0 g1 n2 n3;obtain⟨⟨u0,u1⟩,⟨r0,r1⟩,⟨g0,g1⟩,_,n2,n3⟩:=HB.cells;clear yC pK zP DZ zf hN)
  | (go_at_call 60;refine(rvDone _ _ _ _ _ _ p3 un c3 _ de HC.2).mono ?_;rintro rr w4 ⟨p4,l4,c4,q4,n4,d4,rfl,hN,H4⟩;replace H3:ax _:=fB (H3.1.bB hN) H3.2;replace HB:ax (UB W _ _ R w4):=HB.on hN;clear u0 u1 r0 r1 g0 g1 n2 n3;obtain⟨⟨u0,u1⟩,⟨r0,r1⟩,⟨g0,g1⟩,_,n2,n3⟩:=HB.cells;clear hN))
 all_goals
  go_wp2_with fail;obtain⟨⟨x0,x1⟩,_⟩:=HB.done (ah p4 l4 c4) (ah q4 n4 d4);refine ba (v:=aL #[ar #[ah p4 l4 c4,ah q4 n4 d4],aa ag de]) (by simp[results,results33,go_sem,x0,x1]) rfl ?_;rw[HC.1];exact HB.end fun e=>by obtain⟨rfl,rfl,rfl,rfl,rfl,rfl⟩:=H4.out (by rw[HC.2]at e;split at e<;>omega);exact⟨⟨U3.out,rfl,rfl,rfl⟩,H3.out⟩
end
