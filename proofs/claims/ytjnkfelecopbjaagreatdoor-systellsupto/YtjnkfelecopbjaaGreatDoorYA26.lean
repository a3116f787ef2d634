import Derived.Test.YtjnkfelecopbjaaGreatDoorYA25
import Derived.Test.YtjnkfelecopbjaaGreatDoorYA23
open Go.Proofs.Tryz
open Go.Value renaming int->aa,slice->ah,string->ai,pointer->aj,bool->aq,agg->ar,tuple->aL
open Go.IntKind renaming i64->ag
open Go.RowKit renaming Below->au
open Go renaming World->aw,Aside->ax,Calls->ay,Value->az
open _root_ renaming ByteArray->aA,List->aB,Option->aC,Nat->aE,Int->aF,absurd->aG
open Go.Obj renaming cells->aM
open Option renaming none->aN,some->aO
open Go.Proofs.Tryz renaming prog->aP
set_option linter.all false
set_option maxHeartbeats 8000000
set_option maxRecDepth 100000
namespace Go.Proofs.YtjnkfelecopbjaaGreatDoor
open Go.RowKit PM Go.Sort
section
variable {aS:aE}{W:aw}{B:aE}{s:Sy}{L:ja}
theorem MN(h:cW aS W B s L)(cn cm:aF)(cp ct cx:aA)(ca:Bool)(ow k j:aE)(op:qI)(f:Fl)(how:ow<4)(hk:k<8)(hl:s.ia (ow*8+k) j op f)(iL:s.bh.length<1000000)(tI:s.bJ.length<1000000)(h0:(bH s.all).1=0)(hp:f.bm.size<=80)(lz:(s.cQ f).size<=100)(YV:0<=op.pos/\op.pos<=1000)(Us:cx.size<=1048576):ay aP 29 #[aj (aO B),ar #[aa ag 4,aa ag ow,aa ag k,aa ag cn,aa ag cm,ai cp,ai ct,ai cx,aq ca]] W (ic aS B (if s.sA op f cx=0 then s.wo j op f cx else s) (if s.sA op f cx=0 then gz cx.size ⟨#[]⟩else km (s.sA op f cx)) L W):=by
 have HS:ax (gL aS B s L W ⟨4,ow,k,cn,cm,cp,ct,cx,ca⟩ _):=gL.start h _;have HL:ax (s.ia (ow*8+k) j op f):=hl;generalize hR:ic aS B _ _ L W=R;have HR:ax (_=R):=hR;clear hR h hl;go_enter func29,ntmps29;go_upto_region 0 with fail
 go_cut [3,4]from 3 to 4 (fun s3 s4 w=>s3=aj (aO W)/\s4=aj (aO ⟨↑W+1,0,aN⟩)/\ax (gL aS B s L W ⟨4,ow,k,cn,cm,cp,ct,cx,ca⟩ w))
 case first=>
  go_wp2_with fail;go_meet
  case rel=>exact⟨rfl,rfl,HS.out⟩
 obtain⟨rfl,rfl,HO⟩:=hcut;clear HS;obtain⟨⟨k0,k1,k2,k3,k4,k5,k6,k7,k8⟩,kl⟩:=HO.cells;obtain⟨L1,h1,lj⟩:=HO.ex;obtain⟨g,cd,lN,lg,d0,d1,d2,fz⟩:=h1.desc HL.gX;have c4:=h1.cells.2.2.2.2;rw[lN]at c4;have vB:=h1.fd (k:=ow*8+k) (by omega);rw[mI HL.l6,<- dh 5]at vB;have hj:j<s.bJ.length:=(aQ.1 HL.gX).1;obtain⟨no,hno⟩:∃ n,n=s.bJ.length:=⟨_,rfl⟩
 rw[<- hno]at c4 hj tI;have O6:(j:aF)<(no:aF):=by omega
 have UA:(ow:aF)<4:=by omega
 have He:(k:aF)<8:=by omega
 have g1:decide ((k:aF)<0)=false:=bD (by omega);have g2:decide (7<(k:aF))=false:=bD (by omega);have g3:decide ((j:aF)<0)=false:=bD (by omega);have lz:=fun Y (hY:au wc.heap.size wc Y)=>kN (h1.bB hY) op.cM f HL.hfl iL
 have iy:ax (cW aS wc B s L1/\((∀ b,gV B L1 b->gV B L b\/W.heap.size<=b)/\L1.ex=fun b=>b=W.heap.size+1\/L.ex b)/\L1.vd=ah (aO g) no cd/\no=s.bJ.length):=⟨h1,lj,by rw[hno];exact lN,hno⟩
 have lB:=h1.lt;clear h1 lj lN hno fz;go_wp2_with fail;go_quiet (fail);go_wp2_with fail;go_quiet (fail);go_upto_region 5 with fail
 go_cut [5,6,7]from 21 to 64 (fun s5 s6 s7 w=>s5=aa ag j/\s6=aj (aO ⟨g,j*3,aN⟩)/\s7=ai (s.cQ f)/\ax (au wc wc w))
 case first=>
  go_wp2_with (go_at_call 55;refine(lz _ (below_draws ⟨_,rfl⟩)).mono ?_;rintro r w4 ⟨rfl,eO⟩;have HB:ax (au wc wc w4):=Below.bK (below_draws ⟨_,rfl⟩) eO;clear eO);go_meet
  case rel=>exact⟨rfl,rfl,rfl,HB.out⟩
 obtain⟨rfl,rfl,rfl,HB⟩:=hcut;replace HO:ax (gL aS B s L W ⟨4,ow,k,cn,cm,cp,ct,cx,ca⟩ wc):=HO.pure HB.out;replace iy:ax (cW aS wc B s L1/\((∀ b,gV B L1 b->gV B L b\/W.heap.size<=b)/\L1.ex=fun b=>b=W.heap.size+1\/L.ex b)/\L1.vd=ah (aO g) no cd/\no=s.bJ.length):=⟨iy.1.bB HB.out,iy.2⟩
 clear k0 k1 k2 k3 k4 k5 k6 k7 k8 kl vB c4 d0 d1 d2 lz g1 g2 g3 lB lg HB;obtain⟨⟨k0,k1,k2,k3,k4,k5,k6,k7,k8⟩,kl⟩:=HO.cells;obtain⟨_,_,lN,lg,d0,d1,d2,fz⟩:=iy.1.desc HL.gX;obtain⟨rfl,rfl⟩:g=_/\cd=_:=by rw[iy.2.2.1]at lN;injection lN with e1 e2 e3;injection e1 with e1;injection e1 with e1;exact⟨e1,e3⟩
 clear lN;have lB:=iy.1.lt;generalize htt:s.cQ f=tt;have WH:ax (s.cQ f=tt):=htt;rw[htt]at lz;have hcv:=fun w=>Lib.run_convert_string_bytes (P:=aP) w 9 120 5 tt underlying9 underlying120 underlying5
 cases hu:(bits BinOp.and IntKind.i64 op.use 2 == 0);rotate_left
 ·clear hcv
  go_wp2_with (go_at_call 27;refine(fP _ _).mono ?_;rintro r wb ⟨rfl,fR⟩;have HB:ax _:=HO.pure fR;obtain⟨⟨b0,b1,b2,b3⟩,z0,z1,z2,z3⟩:=cK HB.gz;clear fR);exact ba (v:=ar #[aa ag 8,aa ag 0,ai ⟨#[]⟩,ah aN 0 0]) (by simp[results,results29,go_sem,b0,b1,b2,b3]) rfl (by rw[<- HR.out,show s.sA op f cx=8 from aY hu,aW (by decide),aW (by decide)];exact HB.iT 8 0 ⟨#[]⟩)
 clear htt
 rename aw=>Z
 go_upto_region 9 with fail
 go_cut [17]from 67 to 75 (fun s17 w=>∃ (gb c:aE),s17=ah (aO gb) tt.size c/\ax (au Z Z w/\uQ Z w gb c tt))
 case first=>
  go_wp2_with fail;go_meet
  case rel=>exact⟨_,_,rfl,vA _ _ _,Q4 _ _ (by omega)⟩
 obtain⟨gb,cb,rfl,xO⟩:=hcut;clear hcv k0 k1 k2 k3 k4 k5 k6 k7 k8 kl d0 d1 d2 lB lg fz;have HO9:ax (gL aS B s L W ⟨4,ow,k,cn,cm,cp,ct,cx,ca⟩ wc):=HO.pure xO.1;obtain⟨⟨k0,k1,k2,k3,k4,k5,k6,k7,k8⟩,kl⟩:=HO9.cells;obtain⟨_,_,lN,lg,d0,d1,d2,fz⟩:=(iy.1.bB xO.1).desc HL.gX;obtain⟨rfl,rfl⟩:g=_/\cd=_:=by rw[iy.2.2.1]at lN;injection lN with e1 e2 e3;injection e1 with e1;injection e1 with e1;exact⟨e1,e3⟩
 clear lN;obtain⟨P,hP⟩:∃ P:aE,s.pz op f=P/\P<=1000:=by
  unfold Sy.pz;split
  ·exact⟨_,rfl,by rw[WH.out];omega⟩
  ·exact⟨op.pos.toNat,by omega,by omega⟩
 have HP:ax ((if(bits BinOp.and IntKind.i64 op.use 4 != 0)=true then(tt.size:aF)else op.pos)=P):=by rw[<- WH.out];exact hP.1
 have HWP:ax (s.pz op f=P):=hP.1;have OU:=hP.2;clear hP;go_upto_if 112 with fail
 go_cut [19]from 107 to 114 (fun x w=>x=aa ag P/\w=wc)
 case first=>
  cases hb:(bits BinOp.and IntKind.i64 op.use 4 != 0);all_goals
   have Hg:=HP.out;rw[hb]at Hg;simp only[mU,pk,dI]at Hg;have U0:ax (_=(P:aF)):=Hg;clear Hg;go_wp2_with fail;go_meet
   case rel=>exact⟨by rw[U0.out],rfl⟩
 obtain⟨rfl,rfl⟩:=hcut;obtain⟨bb,pN⟩:∃ b:Bool,b=decide (0<cx.size/\100<P+cx.size):=⟨_,rfl⟩
 have UN:ax (bb=decide (0<cx.size/\100<P+cx.size)):=pN;clear pN;go_upto_region 19 with fail
 go_cut [126]from 115 to 125 (fun x w=>x=aq bb/\w=wc)
 case first=>
  cases e1:decide ((0:aF)<(cx.size:aF))
  ·have e0:=gw e1
   go_wp2_with fail;go_meet
   case rel=>exact⟨by rw[UN.out,bD (by omega)],rfl⟩
  ·have e0:=dE e1
   cases e2:decide ((100:aF)<(P:aF)+(cx.size:aF))
   ·have e4:=gw e2
    go_wp2_with fail;go_meet
    case rel=>exact⟨by rw[UN.out,bD (by omega)],rfl⟩
   ·have e4:=dE e2
    go_wp2_with fail;go_meet
    case rel=>exact⟨by rw[UN.out,dJ (by omega)],rfl⟩
 obtain⟨rfl,rfl⟩:=hcut;cases bb;rotate_left
 ·have hb:=dE UN.symm
  go_wp2_with (go_at_call 27;refine(fP _ _).mono ?_;rintro r wb ⟨rfl,fR⟩;have HB:ax _:=HO9.pure fR;obtain⟨⟨b0,b1,b2,b3⟩,z0,z1,z2,z3⟩:=cK HB.gz;clear fR);exact ba (v:=ar #[aa ag 4,aa ag 0,ai ⟨#[]⟩,ah aN 0 0]) (by simp[results,results29,go_sem,b0,b1,b2,b3]) rfl (by rw[<- HR.out,show s.sA op f cx=4 from(by unfold Sy.sA;rw[hu,aW (by decide),aY ⟨fun e=>by have:cx.size=0:=(by rw[<- ix,e];rfl);omega,by rw[HWP.out];omega⟩]),aW (by decide),aW (by decide)];exact HB.iT 4 0 ⟨#[]⟩)
 have hb:=gw UN.symm;clear UN;generalize YQ:js tt cx P=nt;have HNT:ax (js tt cx P=nt):=YQ;have hER:s.sA op f cx=s.eh f nt:=by unfold Sy.sA;rw[hu,aW (by decide),aW (fun e=>hb ⟨Nat.pos_of_ne_zero fun e2=>e.1 (bX (by rw[ix,e2])),by have:=e.2;rw[HWP.out]at this;omega⟩),WH.out,HWP.out,YQ]
 have hDO:s.wo j op f cx=(s.eT op.cM f nt).jw j { op with pos:=P+cx.size }:=by unfold Sy.wo;rw[WH.out,HWP.out,YQ]
 have qH:ax (R=ic aS B (if s.eh f nt=0 then(s.eT op.cM f nt).jw j { op with pos:=P+cx.size }else s) (if s.eh f nt=0 then gz cx.size ⟨#[]⟩else km (s.eh f nt)) L W):=by show R=_;rw[<- HR.out,hER,hDO]
 obtain⟨be,F7⟩:∃ b,decide ((0:aF)<(cx.size:aF))=b:=⟨_,rfl⟩
 have HBE:ax (decide ((0:aF)<(cx.size:aF))=be):=F7;clear YQ hER hDO HR F7;go_upto_region 21 with fail
 go_cut [131]from 128 to 130 (fun x w=>x=aq be/\w=wc)
 case first=>
  go_wp2_with fail;go_meet
  case rel=>exact⟨by rw[<- HBE.out];exact congrArg Value.bool (decide_eq_decide.2 (by omega)),rfl⟩
 obtain⟨rfl,rfl⟩:=hcut;have F7:=HBE.out;go_upto_if 131 with fail
 go_cut []from 132 to 160 (fun w=>ax (s.eh f nt=0/\gL aS B (s.eT op.cM f nt) L W ⟨4,ow,k,cn,cm,cp,ct,cx,ca⟩ w/\∃ L2,cW aS w B (s.eT op.cM f nt) L2/\((∀ b,gV B L2 b->gV B L b\/W.heap.size<=b)/\L2.ex=fun b=>b=W.heap.size+1\/L.ex b)/\L2.vd=L1.vd))
 case first=>
  cases be
  ·have e0:=gw F7
   go_wp2_with fail;go_meet
   case rel=>
    have YQ:nt.data.toList=(s.cQ f).data.toList:=by rw[<- HNT.out,js,aY (bX (by rw[ix];omega)),WH.out]
    have hd:s.eT op.cM f nt=s:=by unfold Sy.eT;rw[aY YQ]
    rw[hd];exact⟨by unfold Sy.eh;rw[aY YQ],HO9.out,L1,iy.1.bB xO.1,iy.2.1,rfl⟩
  ·have e0:=dE F7
   have WA:ax (nt.data.toList=(tt.data.toList++List.replicate (P+cx.size-tt.size) 0).take P++(cx.data.toList++(tt.data.toList++List.replicate (P+cx.size-tt.size) 0).drop (P+cx.size))):=by show _=_;rw[<- HNT.out];exact Ws tt cx P (fun e=>by have:cx.size=0:=(by rw[<- ix,e];rfl);omega)
   clear k0 k1 k2 k3 k4 k5 k6 k7 k8 kl d0 d1 d2 fz lg;go_wp2_with fail;go_loopg [17] (P+cx.size) (fun gg v wr=>∃ (g' c' m:aE),v=ah (aO g') m c'/\tt.size<=m/\(m<=P+cx.size\/m=tt.size)/\P+cx.size-m<=gg/\ax (au Z Z wr/\uQ Z wr g' c' (tt.data.toList++List.replicate (m-tt.size) 0)))
   case atStart=>exact⟨gb,cb,tt.size,rfl,aV _,.inr rfl,by omega,xO.1,by rw[aaK];simpa using xO.2⟩
   case round=>
    obtain⟨g',c',m,rfl,hm1,hm2,oP,HI⟩:=hrel;obtain⟨⟨k0,k1,k2,k3,k4,k5,k6,k7,k8⟩,kl⟩:=(HO.pure HI.1).cells;have hlen:m=(tt.data.toList++List.replicate (m-tt.size) (0:UInt8)).length:=by rw[cJ,ix,Cy];omega
    have Sk:m<=c':=by have:=HI.2.room;omega
    have Ca:ax (m=(tt.data.toList++List.replicate (m-tt.size) (0:UInt8)).length):=hlen;clear hlen;by_cases gm:m<P+cx.size
    ·have eN:(m:aF)<(P:aF)+(cx.size:aF):=by omega
     go_wp2_with (at_builtin;refine Hw wr rfl _ _ rfl Z g' m c' _ rfl Ca.out HI.2 (by omega) HI.1.size rfl ?_;intro g2 c2 w2 hR2 fC;have H2:ax (au Z Z w2/\uQ Z w2 g2 c2 (tt.data.toList++List.replicate (m+1-tt.size) 0)):=⟨HI.1.trans fC,by rw[show m+1-tt.size=m-tt.size+1 by omega,List.replicate_succ',<- gl];exact hR2⟩;clear hR2 fC);go_roundg (P+cx.size-(m+1))
     case measure=>omega
     case rel=>exact⟨g2,c2,m+1,by go_num,by omega,by omega,by omega,H2.out⟩
    ·have eN:¬ (m:aF)<(P:aF)+(cx.size:aF):=by omega
     have hmz:(P:aF)+(cx.size:aF)<=(m:aF):=by omega
     have hPm:(P:aF)<=(m:aF):=by omega
     rename aw=>wr
     go_upto_region 24 with fail
     go_cut []from 143 to 148 (fun wx=>ax (au Z Z wx/\uQ Z wx g' c' nt.data.toList/\m=nt.data.toList.length))
     case first=>
      have alc:(m:aF)<=(c':aF):=by omega
      have hzB:∀ w,(Go.sizeOf 5).run aP w=.ok 1 w:=acT;go_region_law (refine step_copy_string rfl (.tmp 145) (.tmp 147) 120 9 rfl 5 underlying120 hzB g' P (m-P) (c'-P) (by simp[Act.eval];omega) cx (by simp[Act.eval]) (by omega) (fun j hj=>((HI.2.bB (aR _ _).drew).spare _ (by omega)).1) (fun j hj=>((HI.2.bB (aR _ _).drew).spare _ (by omega)).2) ?_);all_goals
       go_wp2_with fail;go_meet
       case rel=>exact copied HI.1 HI.2 Ca.out hm1 (by omega) (by omega) Sk WA.out
     have abj:=hcut.2.1.str hcut.2.2;have abk:=(hcut.2.1.bB (aR _ _).drew).str hcut.2.2;have UT:ax (cW aS wc B s L1):=iy.1.bB hcut.1;have UY:ax (gL aS B s L W ⟨4,ow,k,cn,cm,cp,ct,cx,ca⟩ wc):=HO.pure hcut.1;have IU:=fun Y (hY:au wc.heap.size wc Y)=>FA (UT.bB hY) op.cM f HL.hfl iL h0 (by omega) nt (by rw[<- ix,<- hcut.2.2];omega)
     obtain⟨_,_,lN,lg,d0,d1,d2,fz⟩:=UT.desc HL.gX;obtain⟨rfl,rfl⟩:g=_/\cd=_:=by rw[iy.2.2.1]at lN;injection lN with e1 e2 e3;injection e1 with e1;injection e1 with e1;exact⟨e1,e3⟩
     obtain⟨ke,YK⟩:=o7 (s.eh f nt)
     rw[YK]at IU;have HKE:ax (s.eh f nt=ke):=YK;clear lN hcut YK;go_upto_region 25 with fail
     go_cut [20]from 149 to 156 (fun v wx=>v=aa ag ke/\ax (gL aS B (if ke=0 then s.eT op.cM f nt else s) L W ⟨4,ow,k,cn,cm,cp,ct,cx,ca⟩ wx/\∃ L2,cW aS wx B (if ke=0 then s.eT op.cM f nt else s) L2/\((∀ b,gV B L2 b->gV B L b\/W.heap.size<=b)/\L2.ex=fun b=>b=W.heap.size+1\/L.ex b)/\L2.vd=L1.vd))
     case first=>
      go_region_with (go_at_call 57;refine(IU _ (aR _ _).drew).mono ?_;clear IU;rintro r w6 ⟨rfl,G9⟩;have H6:ax (oM aS B _ L1 wc.drew w6):=G9;clear G9);all_goals
       go_wp2_with fail;go_meet
       case rel =>obtain⟨L2,h1,h2,h3,h4⟩:=H6.ex;exact⟨rfl,(UY.pure (aR _ _).drew).step ⟨UT.bB (aR _ _).drew,iy.2.1⟩ H6.post,L2,h1,⟨fun b hb=>(h2 b hb).elim (iy.2.1.1 b) fun e=>.inr (bc UY.keep.size e),h3.trans iy.2.1.2⟩,h4⟩
     obtain⟨rfl,HC⟩:=hcut;cases hz:(ke != 0)
     ·have mh:ke=0:=by simpa using hz
      go_wp2_with fail;go_meet
      case rel=>have:=HC.out;rw[aY mh]at this;exact⟨HKE.trans mh,this⟩
     ·have mh:¬ ke=0:=by simpa using hz
      go_wp2_with (go_at_call 27;refine(fP _ _).mono ?_;rintro r wb ⟨rfl,fR⟩;have HB:ax (gL aS B _ L W _ wb):=HC.1.pure fR;obtain⟨⟨b0,b1,b2,b3⟩,z0,z1,z2,z3⟩:=cK HB.gz;clear fR);exact ba (v:=ar #[aa ag ke,aa ag 0,ai ⟨#[]⟩,ah aN 0 0]) (by simp[results,results29,go_sem,b0,b1,b2,b3]) rfl (by rw[qH.out,HKE.out,aW mh,aW mh];have:=HB.out;rw[aW mh]at this;exact this.iT ke 0 ⟨#[]⟩)
 obtain⟨A1,hO,L2,h2,hmn,Li⟩:=hcut.out;have abZ:(s.eT op.cM f nt).bJ=s.bJ:=by unfold Sy.eT;split;rfl;split<;>rfl
 have YS:(s.eT op.cM f nt).bJ[j]?=aO op:=by rw[abZ];exact HL.gX
 have HP:ax _:=hO.step ⟨h2,hmn⟩ (h2.Zk YS (by rw[Li,iy.2.2.1,abZ,iy.2.2.2]) (P+cx.size));clear k0 k1 k2 k3 k4 k5 k6 k7 k8 kl d0 d1 d2 lg fz;obtain⟨⟨k0,k1,k2,k3,k4,k5,k6,k7,k8⟩,kl⟩:=hO.cells;obtain⟨_,_,lN,lg,d0,d1,d2,fz⟩:=h2.desc YS;obtain⟨rfl,rfl⟩:g=_/\cd=_:=by rw[Li,iy.2.2.1]at lN;injection lN with e1 e2 e3;injection e1 with e1;injection e1 with e1;exact⟨e1,e3⟩
 have f2:=fz (j*3+2);obtain⟨⟨b0,b1,b2,b3⟩,z0,z1,z2,z3⟩:=cK HP.gz;have HH:ax (R=ic aS B ((s.eT op.cM f nt).jw j { op with pos:=P+cx.size }) (gz cx.size ⟨#[]⟩) L W):=by show R=_;rw[qH.out,aY A1,aY A1]
 clear hO h2 hmn lN hcut A1 YS qH;go_wp2_with fail;exact ba (v:=ar #[aa ag 0,aa ag cx.size,ai ⟨#[]⟩,ah aN 0 0]) (by simp[results,results29,go_sem,b0,b1,b2,b3]) rfl (by rw[HH.out];exact HP.iT 0 cx.size ⟨#[]⟩)
end
section
variable {aS:aE}{W:aw}{B:aE}{s:Sy}{L:ja}
theorem jf{c:Cl}{e:aF}{s' t:Sy}{a:An}(h:s.je c=(e,s',a))(ht:e=0->s'.eU=t):ic aS B (s.anL c).1.eU (s.anL c).2 L W=ic aS B (if e=0 then t else s.eU) (if e=0 then a else km e) L W:=by
 unfold Sy.anL;rw[h];by_cases he:e=0
 ·simp only[aY he];rw[ht he]
 ·simp only[aW he]
theorem Lv{n j:aE}{op:qI}{f:Fl}(hn:n<32)(h:s.ia n j op f):s.eU.ia n j op f:=by refine⟨h.l6,h.gX,?_⟩;rw[vU h.hfl,aY];exact iu.2 ⟨n,j,hn,h.l6,by simp[Sy.anK,h.gX]⟩
theorem MV{j:aE}{op:qI}{f:Fl}(hr:op.cM∈s.cr)(gX:s.bJ[j]?=aO op)(cx:aA):(s.wo j op f cx).eU=s.eU.wo j op f cx:=by
 have ho:∀ t:aA,(s.eT op.cM f t).bJ[j]?=aO op:=fun t=>by
  unfold Sy.eT;split
  ·exact gX
  ·split
   ·exact gX
   ·exact gX
 unfold Sy.wo;rw[AG (o':={ op with pos:=s.pz op f+cx.size }) (ho _) rfl,E8 hr];rfl
theorem Qh(h:cW aS W B s.eU L)(hg:s.anJ)(hf:s.Kg)(ck cn cm:aF)(cf:aF)(cp ct cx:aA)(ca:Bool)(ow:aE)(how:ow<4)(hck:ck=2\/ck=3\/ck=4\/ck=5\/ck=13\/ck=14\/ck=15\/ck=16)(iL:s.bh.length<1000000)(tI:s.bJ.length<1000000)(Us:cx.size<=1048576):ay aP 29 #[aj (aO B),ar #[aa ag ck,aa ag ow,aa ag cf,aa ag cn,aa ag cm,ai cp,ai ct,ai cx,aq ca]] W (ic aS B (s.anL ⟨ck,ow,cf,cn,cm,cp,ct,cx,ca⟩).1.eU (s.anL ⟨ck,ow,cf,cn,cm,cp,ct,cx,ca⟩).2 L W):=by
 have kQ:s.je ⟨ck,ow,cf,cn,cm,cp,ct,cx,ca⟩=s.sF ow ck cf cn cm cx ca:=by unfold Sy.je;simp only;rw[aW (by omega),aW (by omega),aW (by omega),aW (by omega),aW (by omega),aW (by omega),aW (by omega),aW (by omega),aW (by omega)];rfl
 by_cases hc:cf<0\/8<=cf
 ·have:s.sF ow ck cf cn cm cx ca=(6,s,oT):=by unfold Sy.sF;rw[aY hc]
  rw[jf (kQ.trans this) (t:=s.eU) (fun e=>by cases e),aW (by decide),aW (by decide)];exact NT h ck cf cn cm cp ct cx ca ow how (by omega)
 obtain⟨k,rfl⟩:∃ k:aE,cf=k:=⟨cf.toNat,by omega⟩
 have hk:k<8:=by omega
 cases l6:s.fds (ow*8+k)with
 | none=>
  have:s.sF ow ck k cn cm cx ca=(6,s,oT):=by unfold Sy.sF;rw[aW hc];simp[l6]
  rw[jf (kQ.trans this) (t:=s.eU) (fun e=>by cases e),aW (by decide),aW (by decide)];exact NT h ck k cn cm cp ct cx ca ow how (.inr (.inr ⟨k,hk,rfl,l6⟩))
 | some j=>
  have hj:=hg.v1 _ _ l6;obtain⟨op,gX⟩:∃ op,s.bJ[j]?=aO op:=⟨_,aU hj⟩
  obtain⟨f,hfl⟩:∃ f,s.bh[op.cM]?=aO f:=⟨_,aU (hg.v2 j op gX)⟩
  have hl:s.ia (ow*8+k) j op f:=⟨l6,gX,hfl⟩
  have II:=Lv (by omega) hl;have Sq:s.sF ow ck k cn cm cx ca=s.rV ow k ck cn cm cx ca j op f:=by unfold Sy.sF;rw[aW hc];simp[l6,gX,hfl]
  have hr:op.cM∈s.cr:=iu.2 ⟨ow*8+k,j,by omega,l6,by simp[Sy.anK,gX]⟩;have yb:s.eU.bh.length<1000000:=by rw[mN];exact iL
  have h0:(bH s.eU.all).1=0:=hf.un;obtain⟨p1,p2,p3,p4,p5⟩:=hf.calm _ _ _ _ hl;have hfo:s.anK j=op.cM:=by simp[Sy.anK,gX]
  rw[Sq]at kQ;unfold Sy.rV at kQ;rcases hck with rfl|rfl|rfl|rfl|rfl|rfl|rfl|rfl
  ·have:=KE (s:=s) (n:=ow*8+k) (by omega) l6 { f with b9:=LK.KM.fu f.b9 ow }
   rw[hfo]at this;rw[jf (by simpa using kQ) (fun _=>this),aY rfl,aY rfl];have:=MM h cn cm cp ct cx ca ow k j op f how hk II yb tI p5;rw[show((s.eU.dL (ow*8+k) aN).dQ op.cM { f with b9:=LK.KM.fu f.b9 ow }).cr=((s.dL (ow*8+k) aN).dQ op.cM { f with b9:=LK.KM.fu f.b9 ow }).cr from ig (s:=(s.dL (ow*8+k) aN).dQ op.cM { f with b9:=LK.KM.fu f.b9 ow }) rfl (fun _=>rfl) 32]at this;exact this
  ·rw[jf (by simpa using kQ) (t:=s.eU.jw j { op with pos:=op.pos+(mP (s.cQ f) op.pos cn).size }) (fun _=>AG gX rfl)]
   exact Qf h cn cm cp ct cx ca ow k j op f how hk II yb tI ⟨p1,p2⟩ p4
  ·rw[jf (by simpa using kQ) (t:=s.eU.wo j op f cx) (fun _=>MV hr gX cx)]
   exact MN h cn cm cp ct cx ca ow k j op f how hk II yb tI h0 p3 p4 ⟨p1,p2⟩ Us
  ·rw[jf (by simpa using kQ) (t:=s.eU.jw j { op with pos:=cn }) (fun _=>AG gX rfl)]
   exact Qg h cn cm cp ct cx ca ow k j op f how hk II yb tI
  ·have hd:=T3 h cn cm cp ct cx ca ow k j op f how hk II yb tI
   rcases qK s ow with e|⟨m,hm,e,hfm⟩
   ·rw[jf (e:=5) (by simpa[e]using kQ) (t:=s.eU) (fun e=>by cases e),aW (by decide),aW (by decide)]
    rw[show s.eU.eF ow = -1 from e,aY (by decide),aY (by decide)]at hd;exact hd
   ·rw[jf (e:=0) (by simpa[e,show ¬ ((m:aF)<0) by omega]using kQ) (t:=s.eU.dL (ow*8+m) (aO j)) (fun _=>Rk (by omega) hfm (by omega) l6),aY rfl,aY rfl]
    rw[show s.eU.eF ow=m from e,aW (by omega),aW (by omega)]at hd;exact hd
  ·rw[jf (by simpa using kQ) (t:=s.eU.dQ op.cM { f with b9:=(fK false f.b9 ⟨ow,cn,cm,ca⟩).2 }) (fun _=>AF hr _)]
   exact Qe h cn cm cp ct cx ca ow k j op f how hk II yb tI p5
  ·rw[jf (by simpa using kQ) (t:=s.eU.dQ op.cM { f with b9:=(fK true f.b9 ⟨ow,cn,cm,ca⟩).2 }) (fun _=>AF hr _)]
   exact Qd h cn cm cp ct cx ca ow k j op f how hk II yb tI p5
  ·rw[jf (by simpa using kQ) (t:=s.eU.eT op.cM f (fI (s.cQ f) cn)) (fun _=>E8 hr _ _)]
   exact T1 h cn cm cp ct cx ca ow k j op f how hk II yb tI h0 p3 p4
theorem NJ{ck:aF}{cp:aA}(he:s.pE ck cp=0):(s.Et cp).eU=(s.eU.iZ (fU (s.kH cp)) s.eU.bh.length).di (ec s.up (bG s.cq).2 (fU (s.kH cp))) s.cq:=by
 have hq:¬ (fU (s.kH cp)).data.toList=[]:=fun e=>by
  have e:s.kH cp=[]:=by simpa[fU]using e
  unfold Sy.pE at he;split at he
  ·rename_i h;exact aG he h
  split at he
  ·cases he
  split at he
  ·cases he
  split at he
  ·cases he
  cases he
 rw[EY hq];rfl
theorem TA{cp ct:aA}(he:s.n9 cp ct=0):(s.uM cp ct).eU=s.eU.GI (fU (s.kH cp)) (fU (s.kH ct)) (s.nr (fU (s.kH cp)) (fU (s.kH ct))):=by
 obtain⟨ha,hb⟩:¬ s.kH cp=[]/\¬ s.kH ct=[]:=by
  unfold Sy.n9 at he;split at he
  ·rename_i h;exact aG he h
  split at he
  ·rename_i h;exact aG he h
  split at he
  ·cases he
  rename_i h;exact⟨fun e=>h (.inl e),fun e=>h (.inr e)⟩
 have ha:¬ (fU (s.kH cp)).data.toList=[]:=fun e=>ha (by simpa[fU]using e)
 have hb:¬ (fU (s.kH ct)).data.toList=[]:=fun e=>hb (by simpa[fU]using e)
 unfold Sy.uM Sy.GI Sy.anS;generalize fU (s.kH cp)=a at *;generalize fU (s.kH ct)=b at *;rw[yx];by_cases C0:a.data.toList=b.data.toList
 ·rw[aY C0,aY C0,Ic ha];rfl
 ·rw[aW C0,aW C0,EY hb,Ic ha];rfl
theorem MS(h:cW aS W B s.eU L)(hu:s.iz)(hg:s.anJ)(hf:s.Kg)(ck co cf cn cm:aF)(cp ct cx:aA)(ca:Bool)(iL:s.bh.length<1000000)(tI:s.bJ.length<1000000)(rf:∀ f∈s.eU.bh,f.bm.size<=1048576)(tG:cp.size<=1048576)(Nq:ct.size<=1048576)(Us:cx.size<=1048576):ay aP 14 #[aj (aO B),ar #[aa ag ck,aa ag co,aa ag cf,aa ag cn,aa ag cm,ai cp,ai ct,ai cx,aq ca]] W (ic aS B (s.anL ⟨ck,co,cf,cn,cm,cp,ct,cx,ca⟩).1.eU (s.anL ⟨ck,co,cf,cn,cm,cp,ct,cx,ca⟩).2 L W):=by
 by_cases h1:ck<1\/16<ck
 ·rw[jf (e:=1) (s':=s) (a:=oT) (by unfold Sy.je;simp only;rw[aY h1]) (t:=s.eU) (fun e=>by cases e),aW (by decide),aW (by decide)]
  exact NU h ck co cf cn cm cp ct cx ca 1 (.inl ⟨by omega,rfl⟩)
 by_cases h2:co<0\/4<=co
 ·rw[jf (e:=3) (s':=s) (a:=oT) (by unfold Sy.je;simp only;rw[aW h1,aY h2]) (t:=s.eU) (fun e=>by cases e),aW (by decide),aW (by decide)]
  exact NU h ck co cf cn cm cp ct cx ca 3 (.inr ⟨by omega,by omega,by omega,rfl⟩)
 obtain⟨ow,rfl⟩:∃ k:aE,co=k:=⟨co.toNat,by omega⟩
 have how:ow<4:=by omega
 have h0:(bH s.eU.all).1=0:=hf.un;have yb:s.eU.bh.length<1000000:=by rw[mN];exact iL
 have tH:(ck=2\/ck=3\/ck=4\/ck=5\/ck=13\/ck=14\/ck=15\/ck=16)\/ck=1\/ck=6\/ck=7\/ck=8\/ck=9\/ck=10\/ck=11\/ck=12:=by omega
 have kQ:=show s.je ⟨ck,ow,cf,cn,cm,cp,ct,cx,ca⟩=_ from rfl
 rcases tH with hck|rfl|rfl|rfl|rfl|rfl|rfl|rfl|rfl
 ·exact NV h ck cf cn cm cp ct cx ca ow how _ 29 (.inr ⟨rfl,hck⟩) fun w L1 h1=>Qh h1 hg hf ck cn cm cf cp ct cx ca ow how hck iL tI Us
 ·rw[jf (e:=s.gA ow cn cp) (s':=s.sG ow cn cp) (a:=gz (s.eF ow) ⟨#[]⟩) (by unfold Sy.je;simp only;rw[aW h1,aW h2];simp) (fun he=>Ji hu hg how he)]
  exact NV h 1 cf cn cm cp ct cx ca ow how _ 28 (.inl ⟨rfl,rfl⟩) fun w L1 h1=>MP h1 1 ow cf cn cm cp ct cx ca ow rfl how tG yb tI h0
 ·rw[jf (e:=s.mB cp 2 ⟨#[]⟩) (s':=s.di (cZ s.up (s.nu cp 2 ⟨#[]⟩)) s.cq) (a:=oT) (by unfold Sy.je;simp only;rw[aW h1,aW h2];simp) (fun _=>rfl)]
  exact MQ h cf cn cm cp ct cx ca ow how tG h0
 ·rw[jf (e:=s.pE 7 cp) (s':=s.Et cp) (a:=oT) (by unfold Sy.je;simp only;rw[aW h1,aW h2];simp) (fun he=>NJ he)]
  exact MR h cf cn cm cp ct cx ca ow how tG h0 yb
 ·rw[jf (e:=s.pE 8 cp) (s':=s.Et cp) (a:=oT) (by unfold Sy.je;simp only;rw[aW h1,aW h2];simp) (fun he=>NJ he)]
  exact JW h cf cn cm cp ct cx ca ow how tG h0 yb
 ·rw[jf (e:=s.n9 cp ct) (s':=s.uM cp ct) (a:=oT) (by unfold Sy.je;simp only;rw[aW h1,aW h2];simp) (fun he=>TA he)]
  exact T5 h cf cn cm cp ct cx ca ow how tG h0 yb Nq rf
 ·rw[jf (e:=s.mB cp 3 ct) (s':=s.di (cZ s.up (s.nu cp 3 ct)) s.cq) (a:=oT) (by unfold Sy.je;simp only;rw[aW h1,aW h2];simp) (fun _=>rfl)]
  exact Qj h cf cn cm cp ct cx ca ow how tG h0 Nq
 ·rw[jf (e:=s.ug cp) (s':=s) (a:=s.uf cp) (by unfold Sy.je;simp only;rw[aW h1,aW h2];simp) (t:=s.eU) (fun _=>rfl),ite_self]
  exact Qk h cf cn cm cp ct cx ca ow how tG
 ·rw[jf (e:=s.uz cp) (s':=s) (a:=s.wX cp) (by unfold Sy.je;simp only;rw[aW h1,aW h2];simp) (t:=s.eU) (fun _=>rfl),ite_self]
  exact Ql h cf cn cm cp ct cx ca ow how tG
end
section
variable {W w wx wy:aw}{y:Lay}{lo:aB Lay}{pl:aC Addr}{cl yn ln:aE}{a b:az}{R B:aE}
theorem eZ.Zg{sp:aE->Prop}(h:eZ W y lo pl cl)(hB:au W W w)(hs:∀ b,sp b->W.heap.size<=b):St sp w fun X=>eZ X y lo pl cl:=fun X hX=>by
 have key:∀ b,b<W.heap.size->X.heap[b]?=W.heap[b]?:=fun b hb=>(hX.block b (aZ hb hB.size) fun e=>by have:=hs b e;omega).trans (hB.block b hb)
 have hz:W.heap.size<=X.heap.size:=bc hB.size hX.size;have kl:∀ x:Lay,jP W x->jP X x:=fun x hx=>⟨hx.anO.imp id fun⟨b,off,hp,hb,hc⟩=>⟨b,off,hp,aZ hb hz,fun j e he i v hv=>(gY (key b hb) _).trans (hc j e he i v hv)⟩,hx.fits,hx.cap,hx.small⟩
 exact⟨kl y h.up,h.Wq,h.anO.imp id fun⟨b,off,hp,hb,hc⟩=>⟨b,off,hp,aZ hb hz,fun j e he=>(gY (key b hb) _).trans (hc j e he)⟩,fun x hx=>⟨kl x (h.each x hx).1,(h.each x hx).2⟩,h.nil,h.cap⟩
structure PB (W:aw) (a b:az) (R:aE) (wx:aw):Prop where
 low:au W W wx
 u:wx.heap[W.heap.size]?=aO (aM #[a,b] 26 (0,0))
 r:wx.heap[R]?=aO (aM #[ah aN 0 0,ah aN 0 0,ah aN 0 0,aa ag 0] 29 (0,0))
 ne:W<R
theorem PB.on(h:PB W a b R wx)(hB:au wx wx wy):PB W a b R wy:=
 ⟨Below.bK h.low hB,(hB.block _ (aX.1 h.u).1).trans h.u,(hB.block _ (aX.1 h.r).1).trans h.r,h.ne⟩
theorem PB.lt(h:PB W a b R wx):W.heap.size<wx/\R<wx.heap.size:=⟨(aX.1 h.u).1,(aX.1 h.r).1⟩
theorem PB.Xw(h:PB W a b R wx):wx.cell? W=aO a/\wx.cell? ⟨W,1,aN⟩=aO b:=by constructor<;>simp[World.cell?,h.u]
theorem PB.set(h:PB W a b R wx)(hB:R<B)(i:aE)(v:az):PB W a b R (wx.setCell ⟨B,i,aN⟩ v):=by have:=h.ne;exact⟨h.low.setCell (p:=⟨B,i,aN⟩) (by show _<=B;omega) _,(cI _ _ _ _ (by show _≠B;omega)).trans h.u,(cI _ _ _ _ (by show _≠B;omega)).trans h.r,h.ne⟩
theorem PB.no(h:PB W a b R wx)(e:aF):zX e W (.returned (aL #[ar #[ah aN 0 0,ah aN 0 0,ah aN 0 0,aa ag 0],ah aN 0 0,aa ag e])) ((((wx.setCell R (ah aN 0 0)).setCell ⟨R,1,aN⟩ (ah aN 0 0)).setCell ⟨R,2,aN⟩ (ah aN 0 0)).setCell ⟨R,3,aN⟩ (aa ag 0)):=⟨rfl,CG h.low (bM h.ne) _ _ _ _⟩
def Uh(n:aE):aE->az
 | j+5=>aa ag (if j<n then -1 else 0)
 | _=>ah aN 0 0
theorem Vh(n:aE)(c:aE->az)(h:∀ i,i<37->c i=Uh n i)(i:aE)(hi:i<37):(if i=5+n then aa ag (-1)else c i)=Uh (n+1) i:=by
 by_cases e:i=5+n
 ·rw[aY e,e,nA 5]
  simp[Uh]
 ·rw[aW e,h i hi]
  match i with
  | 0|1|2|3|4=>rfl
  | j+5=>
   simp only[Uh];by_cases h1:j<n
   ·rw[aY h1,aY (by omega)]
   ·rw[aW h1,aW (by omega)]
theorem T6(hb:oI wx B (Uh 32))(h1:W<=B)(h2:W<=R)(h3:R<wx):cW W wx B (fJ [] []) ⟨⟨aN,0,[]⟩,[],aN,0,aN,0,[],ah aN 0 0,ah aN 0 0,fun b=>b=R⟩:=by
 have hs:(fJ [] []).bA=[]:=by kernel_rfl
 refine⟨hb.as fun i hi=>?_,kK _ _ _ _,kK _ _ _ _,fun Y hY=>⟨⟨⟨bI.nil _ _,fun e he=>by simp at he,aV _,by show(0:aE)<_;omega⟩,fun _=>rfl,.inl rfl,fun x hx=>by simp at hx,fun _=>rfl,aV _⟩,.inl hs,fun i f hf=>by simp[fJ]at hf⟩,rfl,rfl,rfl,by rw[hs];exact aV _,fun _=>rfl,fun k j hj=>by simp[fJ]at hj,fun o ho=>by simp[fJ]at ho,fun b hb=>by rw[show b=R from hb];exact⟨h2,h3⟩,h1⟩
 match i with
 | 0|1|3|4=>rfl
 | 2=>show _=Value.slice aN (fJ [] []).bA.length 0;rw[hs];rfl
 | j+5 =>show Value.int .i64 (if j<32 then -1 else 0)=aa ag (DT (fJ [] []) j);rw[aY (by omega)];rfl
end
def M4(er:aF)(n:aE)(s:Sy)(qY:aB An)(W:aw)(r:Ending)(W':aw):Prop:=(¬ er=0->zX er W r W')/\(er=0->80<n->zX 5 W r W')/\(er=0->n<=80->vy s qY W r W')
def Hn(W:aw)(R B:aE)(s0:Sy)(l:aB Cl)(k:aE)(v:az)(wr:aw):Prop:=∃ L row,rW W wr B (s0.run (l.take k)).1 L v (s0.run (l.take k)).2 row/\au W W wr/\wr.heap[R]?=aO (aM #[ah aN 0 0,ah aN 0 0,ah aN 0 0,aa ag 0] 29 (0,0))/\L.ex R
theorem LS{s:Sy}(h:s.bh=[]):s.eU=s:=by obtain⟨_,_,f,_,_⟩:=s;simp only at h;subst h;rfl
theorem K7{W wr w3:aw}{a b:az}{R B:aE}{s0 s:Sy}{L:ja}{l:aB Cl}(h:PB W a b R wr)(h0:cW W wr B s L)(hx:L.ex R)(hf:s0.bh=[])(hP:oM W B s0 L wr w3):Hn W R B s0 l 0 (ah aN 0 0) w3:=by obtain⟨⟨L',h1,h2,h3,_⟩,h4,h5⟩:=hP;refine⟨L',[],⟨by rw[Ea];show cW _ _ _ s0.eU _;rw[LS hf];exact h1,kv.nil _ _,nofun,rfl,fun i an y h1=>by simp[Sy.run]at h1⟩,h.low.trans h4,(h5.block R h.lt.2 (h0.other h.r (by decide) (by decide) (by decide))).trans h.r,by rw[h3];exact hx⟩
theorem LQ{s:Sy}(hg:s.anJ):∀ f∈s.eU.bh,f.bm.size<=1048576:=fun f hf=>by
 obtain⟨i,hi,rfl⟩:=kc.1 hf;have YH:i<s.bh.length:=by rw[mN]at hi;exact hi
 have:=vU (s:=s) (aU YH);rw[aU hi]at this;rw[qB this];split
 ·rename_i h
  have:=hg.fine.short i h _ (aU YH);omega
 ·exact bF _
theorem Ow(y:Lay)(lo:aB Lay)(pl:aC Addr)(cl:aE)(pc:aC Addr)(cc:aE)(l:aB Cl)(W:aw)(hU:eZ W y lo pl cl)(Am:∀ x∈y::lo,∀ e∈x.es,e.bm.size<=1048576/\e.text.size<=1048576)(hC:vu W pc l)(hs:∀ c∈l,c.bm.size<=1048576/\c.tw.size<=1048576/\c.text.size<=1048576):ay aP 5 #[ar #[ah y.ad y.es.length y.cap,ah pl lo.length cl],ah pc l.length cc] W (M4 (bH (y.es::lo.map (·.es))).1 l.length ((fJ y.es (lo.map (·.es))).run l).1 ((fJ y.es (lo.map (·.es))).run l).2 W):=by
 have QC:=Fm y lo pl cl W hU.anO (fun x hx X hX=>by have h:=(hU.all x hx).bB hX;exact jh x.es true x.ad x.cap X h.anO (Am x hx) h.small h.cap) (fun X p c hX hT=>(qQ (y::lo) p c X hT (fun x hx=>(hU.all x hx).bB hX) Am).mono fun r w' h=>h.tree) hU.nil;rw[show(y::lo).map (·.es)=y.es::lo.map (·.es)from rfl]at QC;obtain⟨s0,Da⟩:=ee (fJ y.es (lo.map (·.es)))
 have rF:=fun(h0:(bH (y.es::lo.map (·.es))).1=0) X B L (h:cW W X B (fJ [] []) L) (hB:au W W X)=>AM h y lo pl cl y.es.length lo.length rfl rfl (hU.Zg hB fun b hb=>(h.Mz hb).1) h0
 rw[show(fJ [] []).di y.es (lo.map (·.es))=s0 by rw[Da];rfl]at rF;have HG:ax ((bH (y.es::lo.map (·.es))).1=0->s0.anJ/\s0.iz):=fun h0=>by rw[Da];exact⟨xR h0,MK _ _⟩
 have HC:ax (vu W pc l/\(∀ c∈l,c.bm.size<=1048576/\c.tw.size<=1048576/\c.text.size<=1048576)/\s0.bh=[]/\s0.bJ=[]):=⟨hC,hs,by rw[Da];rfl,by rw[Da];rfl⟩
 rw[<- Da];generalize (bH (y.es::lo.map (·.es))).1=er at QC rF HG ⊢;generalize ((bH (y.es::lo.map (·.es))).2:aF)=ea at QC;obtain⟨n,hn⟩:=ee l.length
 have HN:ax (n=l.length):=hn;generalize y.es.length=yn at *;generalize lo.length=ln at *;rw[<- hn];have aaC:ax (er=0->∀ X B L,cW W X B (fJ [] []) L->au W W X->ay aP 13 #[aj (aO ⟨B,0,aN⟩),ar #[ah y.ad yn y.cap,ah pl ln cl],aa ag 0] X fun r W'=>r=.returned (aa ag 0)/\oM W B s0 L X W'):=rF;clear hU Am hC hs Da hn rF;go_enter func5,ntmps5;go_upto_region 0 with fail
 go_cut [2,4,5,6]from 2 to 6 (fun s2 s4 s5 s6 wx=>∃ R,s2=aj (aO W)/\s4=aj (aO ⟨R,0,aN⟩)/\s5=ah aN 0 0/\s6=aa ag 0/\ax (PB W (ah y.ad yn y.cap) (ah pl ln cl) R wx))
 case first=>
  go_wp2_with fail;go_meet
  case rel=>
   obtain⟨X,hX⟩:=o7 ((W.alloc (aM #[ah y.ad yn y.cap,ah pl ln cl] 26)).alloc (aM #[ah aN 0 0,ah aN 0 0,ah aN 0 0,aa ag 0] 29))
   rw[hX];exact⟨_,rfl,rfl,rfl,rfl,by rw[<- hX];exact((aR _ _).alloc (aV _) _).alloc (by simp) _,nB hX,jm hX,by omega⟩
 obtain⟨R,rfl,rfl,rfl,rfl,HR⟩:=hcut;have HWR:ax (W<R):=HR.ne;obtain⟨u0,u1⟩:=HR.Xw;go_upto_region 1 with fail
 go_cut [7]from 16 to 17 (fun v wx=>∃ F,v=aj (aO ⟨F,0,aN⟩)/\wx.cell? ⟨F,0,aN⟩=aO (aa ag er)/\R<F/\ax (PB W (ah y.ad yn y.cap) (ah pl ln cl) R wx))
 case first=>
  go_wp2_with (go_at_call 12;refine(QC _ HR.low).mono ?_;clear QC;rintro r w2 ⟨rfl,hN⟩;replace HR:ax (PB W _ _ R w2):=HR.on hN;clear hN u0 u1);go_meet
  case rel=>exact⟨_,rfl,by simp,HR.lt.2,HR.on ((aR _ _).alloc (aV _) _)⟩
 obtain⟨F,rfl,f0,hRF,HR⟩:=hcut;clear QC u0 u1;obtain⟨⟨r0,r1,r2,r3⟩,z0,z1,z2,z3⟩:=cK HR.r;have n1:R≠F:=by omega
 have n2:F≠R:=by omega
 go_upto_region 6 with fail
 ·have hz:¬ er=0:=by simpa using ‹(er != 0)=true›
  go_region;all_goals
   go_wp2_with fail;obtain⟨⟨x0,x1,x2,x3⟩,_⟩:=cK (AH HR.r (ah aN 0 0) (ah aN 0 0) (ah aN 0 0) (aa ag 0));refine ba (v:=aL #[ar #[ah aN 0 0,ah aN 0 0,ah aN 0 0,aa ag 0],ah aN 0 0,aa ag er]) (by simp[results,results5,go_sem,x0,x1,x2,x3]) rfl ?_;exact⟨fun _=>⟨rfl,(HR.no er).2.drew⟩,fun e=>aG e hz,fun e=>aG e hz⟩
 ·have hz:er=0:=by simpa using ‹(er != 0)=false›
  have oq:=‹(80:aF)<(n:aF)›;obtain⟨⟨x0,x1,x2,x3⟩,_⟩:=cK (AH HR.r (ah aN 0 0) (ah aN 0 0) (ah aN 0 0) (aa ag 0));refine ba (v:=aL #[ar #[ah aN 0 0,ah aN 0 0,ah aN 0 0,aa ag 0],ah aN 0 0,aa ag 5]) (by simp[results,results5,go_sem,x0,x1,x2,x3]) rfl ?_;exact⟨fun e=>aG hz e,fun _ _=>HR.no 5,fun _ e=>by omega⟩
 have hz:er=0:=by simpa using ‹(er != 0)=false›
 have oq:=‹(n:aF)<=80›;have HP:ax (∀ r W',vy (s0.run l).1 (s0.run l).2 W r W'->M4 er n (s0.run l).1 (s0.run l).2 W r W'):=fun r W' h=>⟨fun e=>aG hz e,fun _ e=>by omega,fun _ _=>h⟩
 have rF:=aaC.out hz;have HGd:=HG.out hz;replace HG:ax (s0.anJ/\s0.iz):=HGd;clear aaC HGd f0 r0 r1 r2 r3 z0 z1 z2 z3 hz n1 n2;go_cut [8]from 28 to 29 (fun v wx=>∃ B,v=aj (aO ⟨B,0,aN⟩)/\R<B/\ax (PB W (ah y.ad yn y.cap) (ah pl ln cl) R wx/\oI wx B (Uh 0)))
 case first=>
  go_wp2_with fail;go_meet
  case rel=>exact⟨_,rfl,HR.lt.2,HR.on ((aR _ _).alloc (aV _) _),_,heap_alloc_last _ _,rfl,fun i hi=>by
   iterate 37 (rcases i with _|i;· rfl)
   omega⟩
 obtain⟨B,rfl,hRB,HB⟩:=hcut;clear HR hRF;go_wp2_with fail;go_loopg [30] 4 (fun gg i wr=>∃ k:aE,k<=4/\4-k<=gg/\i=aa ag k/\ax (PB W (ah y.ad yn y.cap) (ah pl ln cl) R wr/\oI wr B (Uh (k*8))))
 case atStart=>exact⟨0,by omega,by omega,rfl,HB.out⟩
 case round=>
  obtain⟨k,hk,oP,rfl,HI⟩:=hrel;by_cases gm:k<4
  ·have eN:(k:aF)<4:=by omega
   go_wp2_with fail;go_loopg [33] 8 (fun g2 j w2=>∃ m:aE,m<=8/\8-m<=g2/\j=aa ag m/\ax (PB W (ah y.ad yn y.cap) (ah pl ln cl) R w2/\oI w2 B (Uh (k*8+m))))
   case atStart=>exact⟨0,by omega,by omega,rfl,HI.out⟩
   case round=>
    obtain⟨m,hm,uI,rfl,HJ⟩:=hrel;by_cases hlm:m<8
    ·have alb:(m:aF)<8:=by omega
     have c0:=HJ.2.cell (i:=5+k*8+m) (by omega);have f0:=HJ.2.EW (5+k*8+m);rw[show Uh (k*8+m) (5+k*8+m)=aa ag 0 by rw[show 5+k*8+m=k*8+m+5 by omega];simp[Uh]]at c0;go_wp2_with fail;go_roundg (8-(m+1))
     case measure=>omega
     case rel=>exact⟨m+1,by omega,by omega,by go_num,HJ.1.set hRB _ _,(HJ.2.put (5+k*8+m) (aa ag (-1))).as fun i hi=>by rw[dh 5];exact Vh (k*8+m) _ (fun _ _=>rfl) i hi⟩
    ·obtain rfl:m=8:=by omega
     go_wp2_with fail;go_roundg (4-(k+1))
     case measure=>omega
     case rel=>exact⟨k+1,by omega,by omega,by go_num,HJ.1,by rw[show(k+1)*8=k*8+8 by omega];exact HJ.2⟩
  ·obtain rfl:k=4:=by omega
   have U4:ax _:=T6 (W:=W) (R:=R) HI.2 (by have:=HI.1.ne;omega) (bM HI.1.ne) HI.1.lt.2;have kQ:=rF _ _ _ U4.out HI.1.low;obtain⟨u0,u1⟩:=HI.1.Xw;clear rF;go_wp2_with (go_at_call 13;refine kQ.mono ?_;clear kQ;rintro r w3 ⟨rfl,hP3⟩;have HH:ax (Hn W R B s0 l 0 (ah aN 0 0) w3):=K7 HI.1 U4.out rfl HC.2.2.1 hP3;clear hP3 u0 u1);clear HI U4 HB;go_loopg [11,50] n (fun gg v i wr=>∃ k:aE,k<=n/\n-k<=gg/\i=aa ag k/\ax (Hn W R B s0 l k v wr))
   case atStart=>exact⟨0,bF _,by omega,rfl,HH.out⟩
   case round=>
    obtain⟨k,hk,oP,rfl,HI⟩:=hrel;by_cases gm:k<n
    ·have eN:(k:aF)<(n:aF):=by omega
     obtain⟨c,hc⟩:∃ c,l[k]?=aO c:=⟨_,aU (by have:=HN.out;omega)⟩
     have Am:=HC.2.1 c (bw hc);obtain⟨L,row,hP,xq,KX,Gk⟩:=HI.out;have nX:∃ b off,pc=aO ⟨b,off,aN⟩/\b<W.heap.size/\∀ j v,(OA c)[j]?=aO v->wr.cell? ⟨b,off+k*9+j,aN⟩=aO v:=by
      rcases HC.1 with e|⟨b,off,e,hb,hh⟩
      ·rw[e]at hc;simp at hc
      ·exact⟨b,off,e,hb,fun j v hv=>(xq.cell (p:=⟨b,off+k*9+j,aN⟩) hb).trans (hh k c hc j v hv)⟩
     obtain⟨b,off,rfl,xV,pj⟩:=nX;have Cw:ax (l.take (k+1)=l.take k++[c]):=by show _=_;rw[jv,hc];rfl
     obtain⟨ck,co,cf,cn,cm,cp,ct,cx,ca⟩:=c;have q0:wr.cell? ⟨b,off+k*9,aN⟩=aO (aa ag ck):=pj 0 _ rfl;have q1:wr.cell? ⟨b,off+k*9+1,aN⟩=aO (aa ag co):=pj 1 _ rfl;have q2:wr.cell? ⟨b,off+k*9+2,aN⟩=aO (aa ag cf):=pj 2 _ rfl;have q3:wr.cell? ⟨b,off+k*9+3,aN⟩=aO (aa ag cn):=pj 3 _ rfl;have q4:wr.cell? ⟨b,off+k*9+4,aN⟩=aO (aa ag cm):=pj 4 _ rfl;have q5:wr.cell? ⟨b,off+k*9+5,aN⟩=aO (ai cp):=pj 5 _ rfl;have q6:wr.cell? ⟨b,off+k*9+6,aN⟩=aO (ai ct):=pj 6 _ rfl;have q7:wr.cell? ⟨b,off+k*9+7,aN⟩=aO (ai cx):=pj 7 _ rfl;have q8:wr.cell? ⟨b,off+k*9+8,aN⟩=aO (aq ca):=pj 8 _ rfl;have Vw:b<wr.heap.size:=aZ xV xq.size;have fg:au wr wr (wr.alloc (aM #[aa ag ck,aa ag co,aa ag cf,aa ag cn,aa ag cm,ai cp,ai ct,ai cx,aq ca] 51)):=(aR _ _).alloc (aV _) _;have hg:=vI (l.take k) HG.1;have VC:=AE (l.take k) s0;rw[HC.2.2.1,HC.2.2.2]at VC;have htk:(l.take k).length<=80:=by rw[bL];omega
     simp only[ib]at VC;have Vu:=MS (hP.bB fg).at' (JT _ HG.1 HG.2) hg hg.fine ck co cf cn cm cp ct cx ca (by omega) (by omega) (LQ hg) Am.1 Am.2.1 Am.2.2;have FL:ax (rW W (wr.alloc (aM #[aa ag ck,aa ag co,aa ag cf,aa ag cn,aa ag cm,ai cp,ai ct,ai cx,aq ca] 51)) B (s0.run (l.take k)).1 L _ (s0.run (l.take k)).2 row/\_/\_/\L.ex R):=⟨hP.bB fg,Below.bK xq fg,(fg.block _ (aX.1 KX).1).trans KX,Gk⟩
     have tF:ax (s0.run (l.take (k+1))=(((s0.run (l.take k)).1.anL ⟨ck,co,cf,cn,cm,cp,ct,cx,ca⟩).1,(s0.run (l.take k)).2++[((s0.run (l.take k)).1.anL ⟨ck,co,cf,cn,cm,cp,ct,cx,ca⟩).2])):=by show _=_;rw[Cw.out,JE]
     generalize ((s0.run (l.take k)).1.anL ⟨ck,co,cf,cn,cm,cp,ct,cx,ca⟩).1=s1 at Vu tF;generalize ((s0.run (l.take k)).1.anL ⟨ck,co,cf,cn,cm,cp,ct,cx,ca⟩).2=an at Vu tF;have Lg:row.length<=80:=by have:=hP.len;rw[GL]at this;omega
     clear hP xq KX pj Am hc fg hg VC htk HI;have vh:True:=trivial;go_wp2_with (first
      | (go_at_call 14;refine Vu.mono ?_;clear Vu;rintro r w6 ⟨p6,k6,q6,rfl,⟨L4,q1',q2',q3',q4'⟩,E3,hK6⟩;have H6:ax _:=fB q1' (fB q2' (fB q3' (fB q4' hK6)));have zT:ax (kv w6 W _ row/\W.heap.size<=w6/\au W W w6/\w6.heap[R]?=aO (aM #[ah aN 0 0,ah aN 0 0,ah aN 0 0,aa ag 0] 29 (0,0))):=⟨(FL.1.yL (w5:=w6) (v':=ah aN 0 0) q1' q2' q3' q4' hK6).1,(FL.2.1.trans E3).size,FL.2.1.trans E3,(hK6.block _ (aX.1 FL.2.2.1).1 (FL.1.at'.other FL.2.2.1 (by decide) (by decide) (by decide))).trans FL.2.2.1⟩;clear q1' q2' q3' q4' hK6 E3)
      | (at_builtin;clear vh;refine CE w6 ⟨an.err,an.n,an.text,p6,k6,q6⟩ rfl _ _ rfl W _ row rfl zT.1 (by omega) zT.2.1 rfl ?_;intro v7 w7 KT hs7 VE J7 ie;have HH7:ax (Hn W R B s0 l (k+1) v7 w7):=(by obtain⟨z1,z2,z3,z4,z5⟩:=H6.out;obtain⟨L7,hx7,Qr⟩:=(FL.1.yL z1 z2 z3 z4 z5).2 KT hs7 VE J7;refine⟨L7,_,by rw[tF.out];exact Qr,zT.2.2.1.trans ie,(VE _ (aX.1 zT.2.2.2).1 (fun e=>?_)).trans zT.2.2.2,hx7 _ FL.2.2.2⟩;obtain⟨_,eI,hh⟩:=zT.1.own e;rw[zT.2.2.2]at hh;injection hh with hh;injection hh with _ hh _;exact aG hh (by decide));clear KT hs7 VE J7 ie H6 zT))
     go_roundg (n-(k+1))
     case measure=>omega
     case rel=>exact⟨k+1,by omega,by omega,by go_num,HH7.out⟩
    ·obtain rfl:k=n:=by omega
     have eN:¬ (k:aF)<(k:aF):=by omega
     have hI:=HI.out;rw[Hn,show l.take k=l by rw[HN.out];exact gh]at hI
     rename aw=>wz
     obtain⟨L,row,hP,xq,KX,Gk⟩:=hI;obtain⟨pa,na,ac,rfl,F4,BO,RS,OY⟩:=hP.anO;obtain⟨sf,QA⟩:=ee ((s0.run l).1)
     obtain⟨al,E4⟩:=ee ((s0.run l).2)
     have ly:=vI l HG.1;rw[<- QA]at hP HP ly;rw[<- E4]at hP HP F4 OY;obtain⟨d0,d1,d2,d3,_⟩:=hP.at'.cells;obtain⟨go,co,Kb⟩:∃ p c,L.vo=ah p sf.eU.bh.length c:=by
      rcases hP.at'.objs.2 with⟨e,e2⟩|⟨g,c,eI,e,_⟩
      ·exact⟨aN,0,by rw[e,e2]⟩
      ·exact⟨_,c,e⟩
     have VC:=(AE l s0).1;rw[HC.2.2.1,<- QA,ib]at VC;obtain⟨nf,C7⟩:=ee sf.bh.length
     rw[Kb,mN,<- C7]at d3;have SC:=fun X j (hX:au wz.heap.size wz X)=>DM (hP.at'.bB hX) j
     rw[LP]at SC;have HF:ax (rW W wz B sf L (ah pa na ac) al row/\au W W wz/\wz.heap[R]?=aO (aM #[ah aN 0 0,ah aN 0 0,ah aN 0 0,aa ag 0] 29 (0,0))/\L.ex R/\nf=sf.bh.length/\sf.anJ):=⟨hP,xq,KX,Gk,C7,ly⟩
     have lB:=hP.at'.lt;have HAA:ax (na=al.length/\na<=ac/\(pa=aN->ac=0)):=⟨F4,BO,RS⟩
     have ali:nf<=80:=by have:=HN.out;omega
     have HSF:ax (sf=(s0.run l).1/\al=(s0.run l).2):=⟨QA,E4⟩
     clear hP xq KX Gk ly VC HI QA E4 F4 BO RS OY Kb C7;go_wp2_with fail;go_loopg [14,66] nf (fun gg v i wx=>∃ j:aE,j<=nf/\nf-j<=gg/\i=aa ag j/\v=aa ag (FV sf j)/\ax (au wz wz wx))
     case atStart=>exact⟨0,bF _,by omega,rfl,rfl,aR _ _⟩
     case round=>
      obtain⟨j,hj,hgj,rfl,rfl,HX⟩:=hrel;by_cases hlj:j<nf
      ·have af2:(j:aF)<(nf:aF):=by omega
       have hu1:=SC _ j HX.out;have HS:ax (FV sf (j+1)=FV sf j+if decide (j∈sf.cr)=true then 1 else 0):=Oj sf j;have mz:=Vg sf j;generalize decide (j∈sf.cr)=ub at hu1 HS;go_wp2_with (go_at_call 15;refine hu1.mono ?_;clear hu1;rintro r wy ⟨rfl,hN⟩;replace HX:ax (au wz wz wy):=Below.bK HX.out hN;clear hN);all_goals
        go_roundg (nf-(j+1))
        case measure=>omega
        case rel=>exact⟨j+1,by omega,by omega,by go_num,by rw[HS.out];simp[*],HX.out⟩
      ·obtain rfl:j=nf:=by omega
       have af2:¬ (j:aF)<(j:aF):=by omega
       have x0:=(HX.cell (p:=B) lB).trans d0;have x1:=(HX.cell (p:=⟨B,1,aN⟩) lB).trans d1;have x2:=(HX.cell (p:=⟨B,2,aN⟩) lB).trans d2;have HRx:ax (_=_):=(HX.block _ (aX.1 HF.2.2.1).1).trans HF.2.2.1;obtain⟨⟨r0,r1,r2,r3⟩,z0,z1,z2,z3⟩:=cK HRx.out;have n1:R≠B:=by omega
       have n2:B≠R:=by omega
       obtain⟨op,gX⟩:=ee (FV sf j)
       have HOP:ax (op=sf.cr.length):=by show _=_;rw[gX,HF.2.2.2.2.1];exact Rf HF.2.2.2.2.2
       rw[<- gX];obtain⟨e0,Ut⟩:=ee L.y.es.length
       obtain⟨e1,DX⟩:=ee L.lo.length
       obtain⟨e2,Eh⟩:=ee sf.eU.bA.length
       rw[<- Ut]at x0;rw[<- DX]at x1;rw[<- Eh]at x2;have HEq:ax (e0=L.y.es.length/\e1=L.lo.length/\e2=sf.eU.bA.length):=⟨Ut,DX,Eh⟩
       clear gX Ut DX Eh d0 d1 d2;go_wp2_with fail;go_region;all_goals
        go_wp2_with fail;obtain⟨hP,xq,KX,Gk,C7,ly⟩:=HF.out;have hP8:=hP.bB HX.out;have uF:=HRx.out;obtain⟨⟨y0,y1,y2,y3⟩,_⟩:=cK (AH uF (ah L.y.ad e0 L.y.cap) (ah L.pl e1 L.cl) (ah L.ps e2 L.sc) (aa ag op));refine ba (v:=aL #[ar #[ah L.y.ad e0 L.y.cap,ah L.pl e1 L.cl,ah L.ps e2 L.sc,aa ag op],ah pa na ac,aa ag 0]) (by simp[results,results5,go_sem,y0,y1,y2,y3]) rfl ?_;rw[<- HSF.1,<- HSF.2];refine HP.out _ _ ?_;obtain⟨L',Yi,f1,f2,f3,f4,f5,f6⟩:=hP8.write Gk uF ((((cA.set (sp:=fun b=>b=R) rfl _ 0 (ah L.y.ad e0 L.y.cap)).trans (cA.set (sp:=fun b=>b=R) rfl _ 1 (ah L.pl e1 L.cl))).trans (cA.set (sp:=fun b=>b=R) rfl _ 2 (ah L.ps e2 L.sc))).trans (cA.set (sp:=fun b=>b=R) rfl _ 3 (aa ag op)));replace Yi:=Yi.bB (aR _ _).drew;obtain⟨pa',na',ac',yE,b1,b2,b3,b4⟩:=Yi.anO;injection yE with v1 v2 v3
        subst v1 v2 v3;have hd:=Yi.at'.data.now;refine⟨L.y,L.lo,L.pl,L.cl,L.ps,L.sc,e0,e1,e2,op,pa,na,ac,rfl,(CG (Below.bK xq HX.out) (bM HWR.out) _ _ _ _).drew,HEq.1,HEq.2.1,HEq.2.2,HOP.out,hP.at'.up,hP.at'.low,?_,?_,?_,hP.at'.sJ,b1,b2,b3,b4⟩
        ·have:=hd.un
         rw[f1,f2,f3,f4]at this;exact this
        ·have:=hd.bA
         rw[f5]at this;exact this
        ·rw[HEq.2.2];exact hP.at'.sI
namespace PM
end PM
