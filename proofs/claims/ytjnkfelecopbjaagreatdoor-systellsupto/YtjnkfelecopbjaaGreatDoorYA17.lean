import Derived.Test.YtjnkfelecopbjaaGreatDoorYA16
open Go.Proofs.Tryz
open Go.Value renaming int->aa,slice->ah,string->ai,bool->aq,agg->ar,tuple->aL
open Go.IntKind renaming i64->ag
open Go.RowKit renaming Below->au
open Go renaming World->aw,Aside->ax,Calls->ay,Addr->aJ
open _root_ renaming ByteArray->aA,List->aB,Option->aC,UInt8->aD,Nat->aE,Int->aF,absurd->aG
open Bool renaming false->aH,true->aI
open Go.Ending renaming returned->aK
open Go.Obj renaming cells->aM
open Option renaming none->aN,some->aO
open Go.Proofs.Tryz renaming prog->aP
set_option linter.all false
set_option maxHeartbeats 8000000
set_option maxRecDepth 100000
namespace Go.Proofs.YtjnkfelecopbjaaGreatDoor
open Go.RowKit PM Go.Sort
variable{e y:bP}{k:aE}{t:aB bP}{w:aw}
theorem Gy{z:bP}(hk:0<k)(hz:t[k-1]?=aO z):kD (t.take k) y.p=decide (0<=cmp z.p y.p):=by
 obtain⟨k,rfl⟩:∃ j,k=j+1:=⟨k-1,by omega⟩
 rw[xi]at hz;unfold kD;rw[gi hz];simp
theorem kF(s:aA)(w:aw)(hs:s.size<4611686018427387904):ay aP 51 #[ai s] w fun e w'=>(∃ d n:aA,e=aK (aL #[ai d,ai n])/\d.data.toList=(kd s).1/\n.data.toList=(kd s).2)/\Grown w w':=
 (Dy s w hs).mono fun e w' ⟨h,n,hw⟩=>⟨h,by rw[hw];exact(Grown.refl w).drewN n⟩
theorem jh(t:aB bP)(anH:Bool)(p:aC aJ)(cap:aE)(w:aw)(hL:bI w p t)(hF:∀ e∈t,e.bm.size<=1048576/\e.text.size<=1048576)(hn:t.length<4611686018427387904)(ir:t.length<=cap):ay aP 24 #[ah p t.length cap,aq anH] w fun r w'=>r=aK (ar #[aa ag (cV anH t).1,aa ag ((cV anH t).2:aE)])/\au w w w':=by
 have HF:ax (∀ e∈t,e.bm.size<=1048576/\e.text.size<=1048576):=hF;have HL:ax (bI w p t):=hL;clear hF hL;obtain⟨n,eK⟩:=ee t.length
 have HN:ax (n=t.length):=eK;rw[<- eK]at hn ir ⊢;by_cases oq:80<n
 ·have g:(80:aF)<(n:aF):=by omega
  have HR:ax (cV anH t=(5,0)):=by show _=_;rw[cV,aY (by omega)]
  clear eK;go_enter func24,ntmps24;go_wp2;refine ba (v:=ar #[aa ag 5,aa ag 0]) (by simp[results,results24,go_sem]) rfl ?_;exact⟨by rw[HR.out];rfl,(aR _ _).alloc (aV _) _⟩
 ·have g:¬ (80:aF)<(n:aF):=by omega
  have HR:ax (cV anH t=gF anH [] t):=by show _=_;rw[cV,aW (by omega)]
  clear eK;go_enter func24,ntmps24;go_wp2;go_loopg [18] n (fun gg s18 wr=>∃ k:aE,k<=n/\n-k<=gg/\s18=aa ag k/\ax (au (w.heap.size+1) (w.alloc (aM #[aa ag 0,aa ag 0] 56)) wr)/\ax (gF anH (t.take k) (t.drop k)=cV anH t))
  case atStart=>exact⟨0,bF _,by omega,rfl,aR _ _,HR.symm⟩
  case round=>
   obtain⟨k,hk,hg,rfl,BW,HE⟩:=hrel;by_cases gm:k<n
   ·have eN:(k:aF)<(n:aF):=by omega
    obtain⟨y,hy⟩:∃ y,t[k]?=aO y:=⟨_,aU (by have:=HN.out;omega)⟩
    have HY:ax (t[k]?=aO y):=hy;have hf:=HF.out y (bw hy);have pJ:=eX BW.out;rcases HL.out with h0|⟨b,off,rfl,hb,hc⟩
    ·rw[h0]at hy;simp at hy
    obtain⟨c0,c1,c2,c3⟩:=bI.cells hc hb pJ hy;have HC:ax (∀ j e,t[j]?=aO e->∀ i v,(fy e)[i]?=aO v->w.cell? ⟨b,off+j*4+i,aN⟩=aO v):=hc;have ot:b<wr.heap.size:=aZ hb pJ.size;have hne:b≠wr.heap.size:=by omega
    clear hc hy;have BZ:=fun W=>su y anH W (by omega) (by unfold maxLen;omega)
    have Ub:ax (ko anH (t.take k) y=if dv y anH=0 then mr (t.take k) y.p else dv y anH):=rfl;have rX:ax (gF anH (t.take k) (t.drop k)=if ko anH (t.take k) y=0 then gF anH (t.take (k+1)) (t.drop (k+1))else(ko anH (t.take k) y,k)):=oO HY.out;generalize dv y anH=r1 at BZ Ub;by_cases Cq:r1=0
    ·have vt:ax (ko anH (t.take k) y=mr (t.take k) y.p):=by show _=_;rw[Ub.out,aY Cq]
     subst Cq;have oF:=fun W=>kF y.bm W (by omega)
     obtain⟨⟨xp,xk,xt,xo⟩,IY⟩:∃ x,(bW (t.take k) (bU y.p)).getD cR=x:=⟨_,rfl⟩
     obtain⟨bb,pN⟩:=o7 ((bW (t.take k) (bU y.p)).isSome)
     have gI:∀ W (d:aA),d.data.toList=(kd y.bm).1->au w w W->ay aP 31 #[ah (aO ⟨b,off,aN⟩) k cap,ai d] W fun r w'=>r=aK (aL #[ar #[ai xp,aa ag xk,ai xt,aq xo],aq bb])/\au W.heap.size W w':=fun W d hd hB=>by have DV:d.data.toList=bU y.p:=hd;have h:=ij (t.take k) d (aO ⟨b,off,aN⟩) cap W (bI.take (bI.bB (Or.inr ⟨b,off,rfl,hb,HC.out⟩) hB) k) (by rw[bL];have:=HN.out;omega) ⟨xp,xk,xt,xo⟩ bb (by rw[DV];exact IY) (by rw[DV];exact pN);rw[bL,eM (by have:=HN.out;omega)]at h;exact h
     have Ud:(eL (t.take k) (bU y.p)=0/\bb=aI/\xk=2)\/(eL (t.take k) (bU y.p)≠0/\(bb=aH\/(bb=aI/\¬ xk=2))):=by
      unfold eL;cases oP:bW (t.take k) (bU y.p)with
      | none=>rw[oP]at pN;exact .inr ⟨by decide,.inl pN.symm⟩
      | some z=>
       rw[oP]at pN IY;obtain rfl:z=⟨xp,xk,xt,xo⟩:=IY;by_cases j4:xk=2
       ·exact .inl ⟨by simp[j4],pN.symm,j4⟩
       ·exact .inr ⟨by simp[j4],.inr ⟨pN.symm,j4⟩⟩
     clear IY pN;have hkc:k<=cap:=by omega
     have abE:(k:aF)<=(cap:aF):=by omega
     by_cases A1:k=0
     ·have HPL:ax (kD (t.take k) y.p=aH):=by show _=_;rw[A1];rfl
      have QP:ax (eL (t.take k) (bU y.p)=0->ko anH (t.take k) y=0):=fun h=>by rw[vt.out,mr,HPL.out,h];rfl
      have FN:ax (eL (t.take k) (bU y.p)≠0->ko anH (t.take k) y=10):=fun h=>by rw[vt.out,mr,HPL.out];simp[h]
      subst A1;simp only[aaL,Kq]at c0 c1 c2 c3;go_wp2_with (go_at_call 49;refine(BZ _).mono ?_;clear BZ;rintro rr w1 ⟨rfl,fg⟩;obtain⟨⟨d0,d1,d2,d3⟩,_⟩:=iv (by simp) fg;have hX:=pA fg);go_quiet (fail);replace hX:=cG hX nq;rcases Ud with⟨HP0,rfl,tH⟩|⟨FK,Y8⟩
      ·subst tH
       go_wp2_with (first
        | (go_at_call 51;refine(oF _).mono ?_;clear oF;rintro rr w3 ⟨⟨d,nm,rfl,hd,xG⟩,wK⟩;clear xG;replace hX:=Below.bK hX wK.below;clear wK)
        | (go_at_call 31;refine(gI _ d hd (Below.bK pJ hX)).mono ?_;clear gI;rintro rr w4 ⟨rfl,hN⟩;replace hX:=Below.bK hX hN;clear hN;replace hX:=hX.alloc hX.size (aM #[ai xp,aa ag 2,ai xt,aq xo] 88);have HO:ax (au (w.heap.size+1) (w.alloc (aM #[aa ag 0,aa ag 0] 56)) _):=oC BW.out hX;obtain⟨⟨r0,r1⟩,⟨f0,f1⟩⟩:=nw (bC _) HO.out))
       go_roundg (n-(0+1))
       case measure=>omega
       case rel=>exact⟨0+1,by omega,by omega,by go_num,HO.out,by have:=HE.out;rw[rX.out,aY (QP.out HP0)]at this;exact this⟩
      ·rcases Y8 with rfl|⟨rfl,tH⟩
       ·go_wp2_with (first
         | (go_at_call 51;refine(oF _).mono ?_;clear oF;rintro rr w3 ⟨⟨d,nm,rfl,hd,xG⟩,wK⟩;clear xG;replace hX:=Below.bK hX wK.below;clear wK)
         | (go_at_call 31;refine(gI _ d hd (Below.bK pJ hX)).mono ?_;clear gI;rintro rr w4 ⟨rfl,hN⟩;replace hX:=Below.bK hX hN;clear hN;replace hX:=hX.alloc hX.size (aM #[ai xp,aa ag xk,ai xt,aq xo] 88);have HO:ax (au (w.heap.size+1) (w.alloc (aM #[aa ag 0,aa ag 0] 56)) _):=oC BW.out hX;obtain⟨⟨r0,r1⟩,⟨f0,f1⟩⟩:=nw (bC _) HO.out))
        refine ba (v:=ar #[aa ag 10,aa ag ((0:aE):aF)]) (by simp[results,results24,go_sem,r0,r1]) rfl ?_;exact⟨by rw[<- HE.out,rX.out,aW (by rw[FN.out FK];decide),FN.out FK],iI HO.out _ _⟩
       ·go_wp2_with (first
         | (go_at_call 51;refine(oF _).mono ?_;clear oF;rintro rr w3 ⟨⟨d,nm,rfl,hd,xG⟩,wK⟩;clear xG;replace hX:=Below.bK hX wK.below;clear wK)
         | (go_at_call 31;refine(gI _ d hd (Below.bK pJ hX)).mono ?_;clear gI;rintro rr w4 ⟨rfl,hN⟩;replace hX:=Below.bK hX hN;clear hN;replace hX:=hX.alloc hX.size (aM #[ai xp,aa ag xk,ai xt,aq xo] 88);have HO:ax (au (w.heap.size+1) (w.alloc (aM #[aa ag 0,aa ag 0] 56)) _):=oC BW.out hX;obtain⟨⟨r0,r1⟩,⟨f0,f1⟩⟩:=nw (bC _) HO.out))
        refine ba (v:=ar #[aa ag 10,aa ag ((0:aE):aF)]) (by simp[results,results24,go_sem,r0,r1]) rfl ?_;exact⟨by rw[<- HE.out,rX.out,aW (by rw[FN.out FK];decide),FN.out FK],iI HO.out _ _⟩
     ·obtain⟨j,hjk⟩:∃ j,k=j+1:=⟨k-1,by omega⟩
      have HJ:ax (k=j+1):=hjk;have Nt:(0:aF)<(k:aF):=by omega
      have afU:0<k:=by omega
      have akU:decide (0<k)=aI:=dJ afU;have akV:decide ((0:aF)<(k:aF))=aI:=dJ Nt;obtain⟨z,hz⟩:∃ z,t[j]?=aO z:=⟨_,aU (by have:=HN.out;omega)⟩
      have Nr:=HF.out z (bw hz);obtain⟨z0,_,_,_⟩:=bI.cells HC.out hb pJ hz;have HPL:ax (kD (t.take k) y.p=decide (0<=cmp z.p y.p)):=Gy (by omega) (by rw[hjk,xi];exact hz);have hle:=fun W=>Bi z.bm y.bm W (by omega) (by omega)
      have hzb:=bg z0;have afN:((k:aF)-1)=j:=by omega
      have hj0:(0:aF)<=(j:aF):=by omega
      have hjn:(j:aF)<(n:aF):=by omega
      have akS:j<n:=by omega
      have hwj:IntKind.i64.wrap (j:aF)=(j:aF):=by rw[qq];omega
      have ak6:(k:aF)-1<(n:aF):=by omega
      have ak7:(0:aF)<=(k:aF)-1:=by omega
      have ak8:((k:aF)-1).toNat=j:=by omega
      have hkm:k-1=j:=by omega
      have aiC:IntKind.i64.wrap ((k:aF)-1)=(j:aF):=by rw[qq];omega
      clear hz hjk A1;by_cases El:cmp z.p y.p<0
      ·have BQ:decide (cmp z.bm y.bm.data.toList<0)=aI:=dJ El
       rw[BQ]at hle;have HPF:ax (kD (t.take k) y.p=aH):=by show _=_;rw[HPL.out];simpa using El
       have QP:ax (eL (t.take k) (bU y.p)=0->ko anH (t.take k) y=0):=fun h=>by rw[vt.out,mr,HPF.out,h];rfl
       have FN:ax (eL (t.take k) (bU y.p)≠0->ko anH (t.take k) y=10):=fun h=>by rw[vt.out,mr,HPF.out];simp[h]
       clear El BQ;go_wp2_with (go_at_call 49;refine(BZ _).mono ?_;clear BZ;rintro rr w1 ⟨rfl,fg⟩;obtain⟨⟨d0,d1,d2,d3⟩,_⟩:=iv (by simp) fg;have hX:=pA fg;have y0:=(hX.cell (p:=⟨b,off+j*4,aN⟩) hzb).trans z0);go_region_held3 (fun w'=>w'.cell? wr=aO (ai y.bm)/\w'.cell? ⟨b,off+j*4,aN⟩=aO (ai z.bm)) (go_keep) (first|(go_at_call 50;refine(hle _).mono ?_;rintro rr w2 ⟨rfl,fC⟩;have e0:=wO fg fC;have e1:=(fC.cell (p:=⟨b,off+j*4,aN⟩) (aZ hzb hX.size)).trans y0;replace hX:=Below.bK hX.drew fC));rcases Ud with⟨HP0,rfl,tH⟩|⟨FK,Y8⟩
       ·subst tH
        go_wp2_with (first
         | (go_at_call 51;refine(oF _).mono ?_;clear oF;rintro rr w3 ⟨⟨d,nm,rfl,hd,xG⟩,wK⟩;clear xG;replace hX:=Below.bK hX wK.below;clear wK)
         | (go_at_call 31;refine(gI _ d hd (Below.bK pJ hX)).mono ?_;clear gI;rintro rr w4 ⟨rfl,hN⟩;replace hX:=Below.bK hX hN;clear hN;replace hX:=hX.alloc hX.size (aM #[ai xp,aa ag 2,ai xt,aq xo] 88);have HO:ax (au (w.heap.size+1) (w.alloc (aM #[aa ag 0,aa ag 0] 56)) _):=oC BW.out hX;obtain⟨⟨r0,r1⟩,⟨f0,f1⟩⟩:=nw (bC _) HO.out))
        go_roundg (n-(k+1))
        case measure=>omega
        case rel=>exact⟨k+1,by omega,by omega,by go_num,HO.out,by have:=HE.out;rw[rX.out,aY (QP.out HP0)]at this;exact this⟩
       ·rcases Y8 with rfl|⟨rfl,tH⟩
        ·go_wp2_with (first
          | (go_at_call 51;refine(oF _).mono ?_;clear oF;rintro rr w3 ⟨⟨d,nm,rfl,hd,xG⟩,wK⟩;clear xG;replace hX:=Below.bK hX wK.below;clear wK)
          | (go_at_call 31;refine(gI _ d hd (Below.bK pJ hX)).mono ?_;clear gI;rintro rr w4 ⟨rfl,hN⟩;replace hX:=Below.bK hX hN;clear hN;replace hX:=hX.alloc hX.size (aM #[ai xp,aa ag xk,ai xt,aq xo] 88);have HO:ax (au (w.heap.size+1) (w.alloc (aM #[aa ag 0,aa ag 0] 56)) _):=oC BW.out hX;obtain⟨⟨r0,r1⟩,⟨f0,f1⟩⟩:=nw (bC _) HO.out))
         refine ba (v:=ar #[aa ag 10,aa ag (k:aF)]) (by simp[results,results24,go_sem,r0,r1]) rfl ?_;exact⟨by rw[<- HE.out,rX.out,aW (by rw[FN.out FK];decide),FN.out FK],iI HO.out _ _⟩
        ·go_wp2_with (first
          | (go_at_call 51;refine(oF _).mono ?_;clear oF;rintro rr w3 ⟨⟨d,nm,rfl,hd,xG⟩,wK⟩;clear xG;replace hX:=Below.bK hX wK.below;clear wK)
          | (go_at_call 31;refine(gI _ d hd (Below.bK pJ hX)).mono ?_;clear gI;rintro rr w4 ⟨rfl,hN⟩;replace hX:=Below.bK hX hN;clear hN;replace hX:=hX.alloc hX.size (aM #[ai xp,aa ag xk,ai xt,aq xo] 88);have HO:ax (au (w.heap.size+1) (w.alloc (aM #[aa ag 0,aa ag 0] 56)) _):=oC BW.out hX;obtain⟨⟨r0,r1⟩,⟨f0,f1⟩⟩:=nw (bC _) HO.out))
         refine ba (v:=ar #[aa ag 10,aa ag (k:aF)]) (by simp[results,results24,go_sem,r0,r1]) rfl ?_;exact⟨by rw[<- HE.out,rX.out,aW (by rw[FN.out FK];decide),FN.out FK],iI HO.out _ _⟩
      ·have BQ:decide (cmp z.bm y.bm.data.toList<0)=aH:=bD El
       rw[BQ]at hle;have aaD:ax (ko anH (t.take k) y=2):=by show _=_;rw[vt.out,mr,HPL.out,aY (by simpa using El)]
       clear El BQ Ud gI oF;go_wp2_with (go_at_call 49;refine(BZ _).mono ?_;clear BZ;rintro rr w1 ⟨rfl,fg⟩;obtain⟨⟨d0,d1,d2,d3⟩,_⟩:=iv (by simp) fg;have hX:=pA fg;have y0:=(hX.cell (p:=⟨b,off+j*4,aN⟩) hzb).trans z0);go_region_held3 (fun w'=>w'.cell? wr=aO (ai y.bm)/\w'.cell? ⟨b,off+j*4,aN⟩=aO (ai z.bm)) (go_keep) (first|(go_at_call 50;refine(hle _).mono ?_;rintro rr w2 ⟨rfl,fC⟩;have e0:=wO fg fC;have e1:=(fC.cell (p:=⟨b,off+j*4,aN⟩) (aZ hzb hX.size)).trans y0;replace hX:=Below.bK hX.drew fC));have HO:ax (au (w.heap.size+1) (w.alloc (aM #[aa ag 0,aa ag 0] 56)) w2):=oC BW.out hX;obtain⟨⟨r0,r1⟩,⟨f0,f1⟩⟩:=nw (bC _) HO.out;go_wp2;refine ba (v:=ar #[aa ag 2,aa ag (k:aF)]) (by simp[results,results24,go_sem,r0,r1]) rfl ?_;exact⟨by rw[<- HE.out,rX.out,aW (by rw[aaD.out];decide),aaD.out],iI HO.out _ _⟩
    ·have vt:ax (ko anH (t.take k) y=r1):=by show _=_;rw[Ub.out,aW Cq]
     clear Ub;go_wp2_with (go_at_call 49;refine(BZ _).mono ?_;clear BZ;rintro rr w1 ⟨rfl,fg⟩;obtain⟨⟨r0,r1'⟩,⟨f0,f1⟩⟩:=nw (bC _) (oC BW.out (pA fg));have HO:ax (au (w.heap.size+1) (w.alloc (aM #[aa ag 0,aa ag 0] 56)) w1):=oC BW.out (pA fg));refine ba (v:=ar #[aa ag r1,aa ag k]) (by simp[results,results24,go_sem,r0,r1']) rfl ?_;exact⟨by rw[<- HE.out,rX.out,aW (by rw[vt.out];exact Cq),vt.out],iI HO.out _ _⟩
   ·have eN:¬ (k:aF)<(n:aF):=by omega
    have HZ:ax (cV anH t=(0,0)):=by have:=HE.out;rw[cy (by have:=HN.out;omega),gF]at this;exact this.symm
    obtain⟨⟨r0,r1⟩,⟨f0,f1⟩⟩:=nw (bC _) BW.out;go_wp2;refine ba (v:=ar #[aa ag 0,aa ag 0]) (by simp[results,results24,go_sem,r0,r1]) rfl ?_;exact⟨by rw[HZ.out];rfl,iI BW.out _ _⟩
theorem uv(t:aB bP)(q:aA)(p:aC aJ)(cap:aE)(w:aw)(hL:bI w p t)(hF:∀ e∈t,e.bm.size<=1048576)(rE:t.length<=80):ay aP 65 #[ah p t.length cap,ai q] w (CA w (jd t q)):=by
 have HF:ax (∀ e∈t,e.bm.size<=1048576):=hF;have HL:ax (bI w p t):=hL;obtain⟨i0,hi,ou,mL,mh⟩:=E7;obtain⟨n,eK⟩:=ee t.length
 have HN:ax (n=t.length):=eK;rw[<- eK]at rE ⊢;clear eK hL hF;go_enter func65,ntmps65;go_wp2;go_loopg [5,12] n (fun gg v i wr=>∃ (k:aE) (bs:aB aA),k<=n/\n-k<=gg/\i=aa ag k/\bs.length<=k/\ax (jE wr w v bs)/\ax (au w w wr)/\ax (bs.map (·.data.toList)=jd (t.take k) q.data.toList))
 case atStart=>exact⟨0,[],bF _,by omega,rfl,aV _,jE.nil _ _,aR _ _,by simp[jd,ax]⟩
 case round=>
  obtain⟨k,bs,hk,oP,rfl,xV,ST,BW,NM⟩:=hrel;by_cases gm:k<n
  ·have eN:(k:aF)<(n:aF):=by omega
   obtain⟨y,hy⟩:∃ y,t[k]?=aO y:=⟨_,aU (by have:=HN.out;omega)⟩
   have HY:ax (t[k]?=aO y):=hy;have hyf:=HF.out y (bw hy);rcases HL.out with h0|⟨b,off,rfl,hb,hc⟩
   ·rw[h0]at hy;simp at hy
   obtain⟨c0,c1,c2,c3⟩:=bI.cells hc hb BW.out hy;clear hc hy;have oF:=fun W=>kF y.bm W (by omega)
   go_wp2_with (first
    | (go_at_call 51;refine(oF _).mono ?_;clear oF;rintro e w3 ⟨⟨d,nm,rfl,hd,xG⟩,hG⟩;have XE:ax (d.data.toList=bU y.p/\nm.data.toList=(kd y.p).2):=⟨hd,xG⟩;clear hd xG;have CZ:w3.ownsRow w 9 1 u5 bs.length (bs.map Value.string):=ST.below (((Grown.refl wr).alloc _).trans hG).below;rcases CN d q with⟨hdq,XF⟩|⟨hdq,XF⟩)
    | (at_builtin;refine dP _ rfl _ _ 36 rfl w 9 i0 (ai ByteArray.empty) 1 16 underlying36 hi ou mL mh rfl (by decide) _ _ _ rfl (CZ.alloc _) ⟨w3,0,aN⟩ 1 1 [ai nm] rfl rfl ?c1 ?c2 ?c3 ?c4 ?c5 ?_))
   case c1=>exact og _ _ _
   case c2=>intro u hu;simp at hu;subst hu;rfl
   case c3=>unfold maxLen;omega
   case c4=>omega
   case c5=>have:=hG.size;have:=BW.size;simp at *;omega
   ·intro v' w4 gG gN _
    have kT:ax (au w w w4):=vz BW.out BW.size hG _ gN (fun j hj=>(CZ.lt j hj).1);have HS4:ax (jE w4 w v' (bs++[nm])):=by simpa[jE,ax]using gG
    clear gG gN;go_wp2;go_roundg (n-(k+1))
    case measure=>omega
    case rel=>exact⟨k+1,bs++[nm],by omega,by omega,by go_num,by simp;omega,HS4.out,kT.out,by
      show _=_;rw[ui HY.out,aY (XE.1.symm.trans XF.out),<- NM.out,<- XE.2];simp⟩
   ·go_roundg (n-(k+1))
    case measure=>omega
    case rel=>exact⟨k+1,bs,by omega,by omega,by go_num,by omega,CZ,(BW.alloc BW.size _).trans (hG.below.mono (by have:=BW.size;simp;omega)),by
      show _=_;rw[ui HY.out,aW (fun h=>XF.out (XE.1.trans h)),NM.out];simp⟩
  ·have eN:¬ (k:aF)<(n:aF):=by omega
   have HE:ax (jd t q.data.toList=bs.map (·.data.toList)):=by show _=_;rw[NM.out,cz (by have:=HN.out;omega)]
   go_wp2;go_ret;exact⟨⟨_,bs,rfl,ST.out,HE.symm⟩,BW.out⟩
theorem Ju(t:aB bP)(q:aA)(p:aC aJ)(cap:aE)(w:aw)(hL:bI w p t)(hF:∀ e∈t,e.bm.size<=1048576)(rE:t.length<=80):ay aP 37 #[ah p t.length cap,ai q] w (eW w (l7 t q).1 (l7 t q).2):=by
 obtain⟨⟨xp,xk,xt,xo⟩,IY⟩:∃ x,(bW t q).getD cR=x:=⟨_,rfl⟩
 obtain⟨bb,pN⟩:=o7 ((bW t q).isSome)
 have gI:=ij t q p cap w hL (by omega) ⟨xp,xk,xt,xo⟩ bb IY pN;have Qu:=fun W (hB:au w.heap.size w W)=>uv t q p cap W (hL.bB hB) hF rE
 have HC:(ax (l7 t q.data.toList=(jd t q.data.toList,0))/\bb=aI/\xk=2)\/(ax (l7 t q.data.toList=([],6))/\bb=aH)\/(ax (l7 t q.data.toList=([],10))/\bb=aI/\¬ xk=2):=by
  unfold l7 eL;cases oP:bW t q with
  | none=>rw[oP]at pN;exact .inr (.inl ⟨rfl,pN.symm⟩)
  | some z=>
   rw[oP]at pN IY;obtain rfl:z=⟨xp,xk,xt,xo⟩:=IY;by_cases j4:xk=2
   ·exact .inl ⟨by simp[j4,ax],pN.symm,j4⟩
   ·exact .inr (.inr ⟨by simp[j4,ax],pN.symm,j4⟩)
 obtain⟨n,eK⟩:=ee t.length
 rw[<- eK]at gI Qu rE ⊢;clear eK hL hF IY pN;rcases HC with⟨HE,rfl,rfl⟩|⟨HE,rfl⟩|⟨HE,rfl,tH⟩
 ·go_enter func37,ntmps37
  go_wp2_with (first
   | (go_at_call 31;refine gI.mono ?_;clear gI;rintro r w1 ⟨rfl,hB⟩;replace hB:=hB.alloc hB.size (aM #[ai xp,aa ag 2,ai xt,aq xo] 88))
   | (go_at_call 65;refine(Qu _ hB).mono ?_;clear Qu;rintro r w2 ⟨⟨v,bs,rfl,hS,DU⟩,fC⟩;have nN:ax (au w w w2):=Below.bK hB fC;have HS:ax (jE w2 w v bs):=jE.mono hS hB.size;have HBS:ax (bs.map (·.data.toList)=jd t q):=DU;clear hS DU fC))
  go_ret2;exact eW.mk (HE.trans (by rw[HBS.out])) rfl rfl HS.out rfl nN.out
 ·go_enter func37,ntmps37
  go_wp2_with (go_at_call 31;refine gI.mono ?_;clear gI;rintro r w1 ⟨rfl,hB⟩;replace hB:=hB.alloc hB.size (aM #[ai xp,aa ag xk,ai xt,aq xo] 88));go_ret2;exact eW.mk HE.out rfl rfl (jE.nil _ _) rfl hB
 ·go_enter func37,ntmps37
  go_wp2_with (go_at_call 31;refine gI.mono ?_;clear gI;rintro r w1 ⟨rfl,hB⟩;replace hB:=hB.alloc hB.size (aM #[ai xp,aa ag xk,ai xt,aq xo] 88));go_ret2;exact eW.mk HE.out rfl rfl (jE.nil _ _) rfl hB
def gP(t:aB bP)(q:aB aD):aB bP:=t.filter fun x => !decide (x.p=q) && !anG x.p q
theorem sH{q:aB aD}(hy:t[k]?=aO y):gP (t.take (k+1)) q=gP (t.take k) q++(if y.p=q then[]else if anG y.p q then[]else[y]):=by unfold gP;rw[gi hy,eu];by_cases h1:y.p=q<;>by_cases h2:anG y.p q=aI<;>simp[h1,h2]
theorem uL(t:aB bP)(q:aA)(p:aC aJ)(cap:aE)(w:aw)(hL:bI w p t)(hF:∀ e∈t,e.bm.size<=1048576)(hq:q.size<=maxLen)(rE:t.length<=10000):ay aP 106 #[ah p t.length cap,ai q] w (iq (gP t q) w):=by
 have HF:ax (∀ e∈t,e.bm.size<=1048576):=hF;have HL:ax (bI w p t):=hL;obtain⟨i0,hi,ou,mL,mh⟩:=ue;obtain⟨n,eK⟩:=ee t.length
 have HN:ax (n=t.length):=eK;rw[<- eK]at rE ⊢;clear eK hL hF;go_enter func106,ntmps106;go_wp2;go_loopg [5,10] n (fun gg v i wr=>∃ (k:aE) (l:aB bP),k<=n/\n-k<=gg/\i=aa ag k/\l.length<=k/\ax (Rows wr w v l)/\ax (au w w wr)/\ax (l=gP (t.take k) q.data.toList))
 case atStart=>exact⟨0,[],bF _,by omega,rfl,aV _,Rows.nil _ _,aR _ _,by simp[gP,ax]⟩
 case round=>
  obtain⟨k,l,hk,oP,rfl,xV,ST,BW,NM⟩:=hrel;by_cases gm:k<n
  ·have eN:(k:aF)<(n:aF):=by omega
   obtain⟨y,hy⟩:∃ y,t[k]?=aO y:=⟨_,aU (by have:=HN.out;omega)⟩
   have HY:ax (t[k]?=aO y):=hy;have hyf:=HF.out y (bw hy);rcases HL.out with h0|⟨b,off,rfl,hb,hc⟩
   ·rw[h0]at hy;simp at hy
   obtain⟨c0,c1,c2,c3⟩:=bI.cells hc hb BW.out hy;clear hc hy;have nI:=fun W=>oZ y.bm q W (by unfold maxLen;omega) hq
   by_cases rb:y.bm.data.toList=q.data.toList
   ·obtain⟨DX,Eh⟩:=kZ rb
    have HP:ax (y.p=q.data.toList):=rb;clear rb nI;go_wp2;go_roundg (n-(k+1))
    case measure=>omega
    case rel=>exact⟨k+1,l,by omega,by omega,by go_num,by omega,ST.below ((Grown.refl wr).alloc _).below,BW.alloc BW.size _,by
      show _=_;rw[sH HY.out,aY HP.out,fj,NM.out]⟩
   ·obtain⟨DX,Eh⟩:=j8 rb
    have HP:ax (¬ y.p=q.data.toList):=rb;clear rb;have HU:ax (∀ b,anG y.bm q.data.toList=b->anG y.p q.data.toList=b):=fun b h=>h
    generalize hub:anG y.bm q.data.toList=u at nI;have HUB:ax (anG y.p q.data.toList=u):=hub;clear hub HU;have CZ:(wr.alloc (aM #[ai y.bm,aa ag y.bE,ai y.text,aq y.opq] 88)).ownsRow w 88 4 u5 l.length (l.flatMap fy):=ST.below ((Grown.refl wr).alloc _).below;cases u with
    | true=>
     clear CZ;go_wp2_with (go_at_call 36;refine(nI _).mono ?_;clear nI;rintro rr w2 ⟨rfl,xw⟩;subst w2);go_roundg (n-(k+1))
     case measure=>omega
     case rel=>exact⟨k+1,l,by omega,by omega,by go_num,by omega,ST.below ((Grown.refl wr).alloc _).below,BW.alloc BW.size _,by
       show _=_;rw[sH HY.out,aW HP.out,aY HUB.out,fj,NM.out]⟩
    | false=>
     go_wp2_with (first
      | (go_at_call 36;refine(nI _).mono ?_;clear nI;rintro rr w2 ⟨rfl,xw⟩;subst w2)
      | (at_builtin;refine dP _ rfl _ _ 23 rfl w 88 i0 _ 4 48 underlying23 hi ou mL mh rfl (by decide) _ _ _ rfl (CZ.alloc _) ⟨↑wr+1,0,aN⟩ 1 1 (fy y) rfl rfl ?c1 ?c2 ?c3 ?c4 ?c5 ?_))
     case c1=>exact lK _ _ _ (by simp)
     case c2=>exact fun u hu=>kA (t:=[y]) (by simpa using hu)
     case c3=>unfold maxLen;omega
     case c4=>omega
     case c5=>have:=BW.size;simp;omega
     ·intro v' w4 gG gN _
      have kT:ax (au w w w4):=vz BW.out BW.size (Grown.refl _) _ gN (fun j hj=>(CZ.lt j hj).1);have HS4:ax (Rows w4 w v' (l++[y])):=by simpa[Rows,ax]using gG
      clear gG gN;go_wp2;go_roundg (n-(k+1))
      case measure=>omega
      case rel=>exact⟨k+1,l++[y],by omega,by omega,by go_num,by simp;omega,HS4.out,kT.out,by
        show _=_;rw[sH HY.out,aW HP.out,aW (by rw[HUB.out];decide),NM.out]⟩
  ·have eN:¬ (k:aF)<(n:aF):=by omega
   have HE:ax (gP t q.data.toList=l):=by show _=_;rw[NM.out,cz (by have:=HN.out;omega)]
   go_wp2;go_ret;exact⟨⟨_,rfl,by rw[HE.out];exact ST.out⟩,BW.out⟩
theorem rI(t:aB bP)(q:aA)(p:aC aJ)(cap:aE)(w:aw)(hL:bI w p t)(hF:∀ e∈t,e.bm.size<=1048576)(hq:q.size<=maxLen)(rE:t.length<=80):ay aP 106 #[ah p t.length cap,ai q] w (iq (gP t q) w):=
 uL t q p cap w hL hF hq (by omega)
def lv(e:bP)(s:aB bP × Bool)(x:bP):aB bP × Bool:=
 if s.2=aH/\¬ cmp x.p e.p<0 then(s.1++[e]++(if x.p=e.p then[]else[x]),aI)
 else(s.1++(if x.p=e.p then[]else[x]),s.2)
def xL(t:aB bP)(e:bP):aB bP × Bool:=t.foldl (lv e) ([],aH)
def uP(t:aB bP)(e:bP):aB bP:=if(xL t e).2 then(xL t e).1 else(xL t e).1++[e]
theorem MU(hy:t[k]?=aO y):xL (t.take (k+1)) e=lv e (xL (t.take k) e) y:=by unfold xL;rw[gi hy,Km];rfl
theorem qU(t:aB bP)(e:bP)(p:aC aJ)(cap:aE)(w:aw)(hL:bI w p t)(hF:∀ e∈t,e.bm.size<=1048576)(he:e.bm.size<=1048576)(rE:t.length<=10000):ay aP 100 #[ah p t.length cap,ar #[ai e.bm, aa ag e.bE, ai e.text, aq e.opq]] w (iq (uP t e) w):=by
 have HF:ax (∀ e∈t,e.bm.size<=1048576):=hF;have HL:ax (bI w p t):=hL;obtain⟨i0,hi,ou,mL,mh⟩:=ue;obtain⟨n,eK⟩:=ee t.length
 have HN:ax (n=t.length):=eK;rw[<- eK]at rE ⊢;clear eK hL hF;go_enter func100,ntmps100;go_wp2;go_loopg [5,6,11] n (fun gg v d i wr=>∃ (k:aE) (l:aB bP) (db:Bool),k<=n/\n-k<=gg/\i=aa ag k/\d=aq db/\l.length<=2*k/\ax (Rows wr (w.heap.size+1) v l)/\ax (au (w.heap.size+1) (w.alloc (aM #[ai e.bm, aa ag e.bE, ai e.text, aq e.opq] 88)) wr)/\ax ((l,db)=xL (t.take k) e))
 case atStart=>exact⟨0,[],aH,bF _,by omega,rfl,rfl,bF _,Rows.nil _ _,aR _ _,rfl⟩
 case round=>
  obtain⟨k,l,db,hk,oP,rfl,rfl,xV,ST,BW,NM⟩:=hrel;by_cases gm:k<n
  ·have eN:(k:aF)<(n:aF):=by omega
   obtain⟨y,hy⟩:∃ y,t[k]?=aO y:=⟨_,aU (by have:=HN.out;omega)⟩
   have rX:ax (xL (t.take (k+1)) e=lv e (l,db) y):=by show _=_;rw[MU hy,NM.out]
   have hyf:=HF.out y (bw hy);have pJ:=eX BW.out;rcases HL.out with h0|⟨b,off,rfl,hb,hc⟩
   ·rw[h0]at hy;simp at hy
   obtain⟨c0,c1,c2,c3⟩:=bI.cells hc hb pJ hy;clear hc hy;have Lj:w.heap.size+1<=wr.heap.size:=by have:=BW.size;simpa using this
   have EF:ax (∀ g,u5.ownBlock=aO g->w.heap.size+1<=g/\g<wr.heap.size):=fun g hg=>gQ ST.out g hg
   have hle:=fun W=>Bi y.bm e.bm W (by omega) (by omega)
   obtain⟨⟨f0,f1,f2,f3⟩,_⟩:=iv (bC _) BW.out;have hne:w.heap.size≠wr.heap.size:=by omega
   have alL:w.heap.size<wr.heap.size:=by omega
   have HA:ax (au wr wr (wr.alloc (aM #[ai y.bm, aa ag y.bE, ai y.text, aq y.opq] 88))):=((Grown.refl wr).alloc _).below;have hX:(wr.alloc (aM #[ai y.bm, aa ag y.bE, ai y.text, aq y.opq] 88)).heap.size=wr.heap.size+1:=by simp
   cases db with
   | true=>
    have HT:ax (lv e (l,aI) y=(l++(if y.p=e.p then[]else[y]),aI)):=by show _=_;rw[lv,aW (by simp)]
    clear hle;by_cases rb:y.bm.data.toList=e.bm.data.toList
    ·obtain⟨DX,Eh⟩:=kZ rb
     have HP:ax (y.p=e.p):=rb;clear rb;go_wp2;go_roundg (n-(k+1))
     case measure=>omega
     case rel=>exact⟨k+1,l,aI,by omega,by omega,by go_num,rfl,by omega,ST.below HA.out,oC BW.out HA.out,by show _=_;rw[rX.out,HT.out,aY HP.out,fj]⟩
    ·obtain⟨DX,Eh⟩:=j8 rb
     have HP:ax (¬ y.p=e.p):=rb;clear rb;have Ck:=ST.below HA.out;go_wp2_with (at_builtin;refine gS (wr.alloc (aM #[ai y.bm, aa ag y.bE, ai y.text, aq y.opq] 88)) y rfl _ _ rfl (w.heap.size+1) _ l rfl Ck (by omega) (by omega) _ (by simp) rfl ?_;clear Ck;intro v4 w4 uW eO F1 Qz;have Kj:ax (Rows w4 (w.heap.size+1) v4 (l++[y])):=uW;have kT:ax (au (w.heap.size+1) (w.alloc (aM #[ai e.bm, aa ag e.bE, ai e.text, aq e.opq] 88)) w4):=(oC BW.out HA.out).trans eO;clear uW eO F1);go_roundg (n-(k+1))
     case measure=>omega
     case rel=>exact⟨k+1,l++[y],aI,by omega,by omega,by go_num,rfl,by simp;omega,Kj.out,kT.out,by show _=_;rw[rX.out,HT.out,aW HP.out]⟩
   | false=>
    by_cases El:cmp y.p e.p<0
    ·have BQ:decide (cmp y.bm e.bm.data.toList<0)=aI:=dJ El
     rw[BQ]at hle;have rb:¬ y.bm.data.toList=e.bm.data.toList:=fun h=>by have h2:y.p=e.p:=h;rw[h2,kY]at El;exact aG El (by decide)
     have HT:ax (lv e (l,aH) y=(l++[y],aH)):=by show _=_;rw[lv,aW (fun h=>h.2 El),aW (show ¬ y.p=e.p from rb)]
     obtain⟨DX,Eh⟩:=j8 rb;clear rb El BQ;go_wp2_with (first
      | (go_at_call 50;refine(hle _).mono ?_;clear hle;rintro rr w2 ⟨rfl,fC⟩;obtain⟨⟨d0,d1,d2,d3⟩,_⟩:=iv (by simp) fC;have Ai:=pA fC;have Ck:=ST.below Ai;have BX:=Ai.size;obtain⟨⟨e0,_,_,_⟩,_⟩:=iv (bC _) (oC BW.out Ai))
      | (at_builtin;refine gS w2 y rfl _ _ rfl (w.heap.size+1) _ l rfl Ck (by omega) (by omega) _ (by simp) rfl ?_;clear Ck;intro v4 w4 uW eO F1 Qz;have Kj:ax (Rows w4 (w.heap.size+1) v4 (l++[y])):=uW;have kT:ax (au (w.heap.size+1) (w.alloc (aM #[ai e.bm, aa ag e.bE, ai e.text, aq e.opq] 88)) w4):=(oC BW.out Ai).trans eO;clear uW eO F1))
     go_roundg (n-(k+1))
     case measure=>omega
     case rel=>exact⟨k+1,l++[y],aH,by omega,by omega,by go_num,rfl,by simp;omega,Kj.out,kT.out,by show _=_;rw[rX.out,HT.out]⟩
    ·have BQ:decide (cmp y.bm e.bm.data.toList<0)=aH:=bD El
     rw[BQ]at hle;have HT:ax (lv e (l,aH) y=(l++[e]++(if y.p=e.p then[]else[y]),aI)):=by show _=_;rw[lv,aY ⟨rfl,El⟩]
     clear El BQ;by_cases rb:y.bm.data.toList=e.bm.data.toList
     ·obtain⟨DX,Eh⟩:=kZ rb
      have HP:ax (y.p=e.p):=rb;clear rb;go_wp2_with (first
       | (go_at_call 50;refine(hle _).mono ?_;clear hle;rintro rr w2 ⟨rfl,fC⟩;obtain⟨⟨d0,d1,d2,d3⟩,_⟩:=iv (by simp) fC;have Ai:=pA fC;have Ck:=ST.below Ai;have BX:=Ai.size;have Y4:=fC.size;obtain⟨⟨e0,e1,e2,e3⟩,_⟩:=iv (bC _) (oC BW.out Ai))
       | (at_builtin;refine gS w2 e rfl _ _ rfl (w.heap.size+1) _ l rfl Ck (by omega) (by omega) _ (by simp) rfl ?_;clear Ck;intro v4 w4 uW eO F1 Qz;have Kj:ax (Rows w4 (w.heap.size+1) v4 (l++[e])):=uW;have kT:ax (au (w.heap.size+1) (w.alloc (aM #[ai e.bm, aa ag e.bE, ai e.text, aq e.opq] 88)) w4):=(oC BW.out Ai).trans eO;have g0:=(F1 ⟨w,0,aN⟩ (by simp only;omega) (fun g hg=>by have:=EF.out g hg;simp only;omega)).trans e0;have x0:=(F1 ⟨wr,0,aN⟩ (by simp only;simp at Y4;omega) (fun g hg=>by have:=EF.out g hg;simp only;omega)).trans d0;clear uW eO F1))
      go_roundg (n-(k+1))
      case measure=>omega
      case rel=>exact⟨k+1,l++[e],aI,by omega,by omega,by go_num,rfl,by simp;omega,Kj.out,kT.out,by show _=_;rw[rX.out,HT.out,aY HP.out,fj]⟩
     ·obtain⟨DX,Eh⟩:=j8 rb
      have HP:ax (¬ y.p=e.p):=rb;clear rb;go_wp2_with (first
       | (go_at_call 50;refine(hle _).mono ?_;clear hle;rintro rr w2 ⟨rfl,fC⟩;obtain⟨⟨d0,d1,d2,d3⟩,_⟩:=iv (by simp) fC;have Ai:=pA fC;have Ck:=ST.below Ai;have BX:=Ai.size;have Y4:=fC.size;obtain⟨⟨e0,e1,e2,e3⟩,_⟩:=iv (bC _) (oC BW.out Ai))
       | (at_builtin;refine gS w2 e rfl _ _ rfl (w.heap.size+1) _ l rfl Ck (by omega) (by omega) _ (by simp) rfl ?_;clear Ck;intro v4 w4 uW eO F1 Qz;have kT:ax (au (w.heap.size+1) (w.alloc (aM #[ai e.bm, aa ag e.bE, ai e.text, aq e.opq] 88)) w4):=(oC BW.out Ai).trans eO;have g0:=(F1 ⟨w,0,aN⟩ (by simp only;omega) (fun g hg=>by have:=EF.out g hg;simp only;omega)).trans e0;have hxc:=fun i=>F1 ⟨wr,i,aN⟩ (by simp only;simp at Y4;omega) (fun g hg=>by have:=EF.out g hg;simp only;omega);have x0:=(hxc 0).trans d0;have x1:=(hxc 1).trans d1;have x2:=(hxc 2).trans d2;have x3:=(hxc 3).trans d3;clear eO F1 hxc)
       | (at_builtin;refine gS w4 y rfl _ _ rfl (w.heap.size+1) _ (l++[e]) rfl uW (by simp;omega) (by omega) _ (by simp) rfl ?_;clear uW;intro v6 w6 OV E3 hC6 hs6;have zT:ax (Rows w6 (w.heap.size+1) v6 (l++[e]++[y])):=OV;have XC:ax (au (w.heap.size+1) (w.alloc (aM #[ai e.bm, aa ag e.bE, ai e.text, aq e.opq] 88)) w6):=kT.trans E3;clear OV E3 hC6))
      go_roundg (n-(k+1))
      case measure=>omega
      case rel=>exact⟨k+1,l++[e]++[y],aI,by omega,by omega,by go_num,rfl,by simp;omega,zT.out,XC.out,by show _=_;rw[rX.out,HT.out,aW HP.out]⟩
  ·have eN:¬ (k:aF)<(n:aF):=by omega
   have HE:ax (uP t e=if db then l else l++[e]):=by show _=_;have:=NM.out;rw[cz (by have:=HN.out;omega)]at this;rw[uP,<- this]
   obtain⟨⟨f0,f1,f2,f3⟩,_⟩:=iv (bC _) BW.out;have Lj:w.heap.size+1<=wr.heap.size:=by have:=BW.size;simpa using this
   have ST':=ST.out;cases db with
   | true =>have HE1:ax (uP t e=l):=HE.out;go_wp2;go_ret;exact⟨⟨_,rfl,by rw[HE1.out];exact ST.mono (qW _)⟩,eX BW.out⟩
   | false =>have HE1:ax (uP t e=l++[e]):=HE.out;go_wp2_with (at_builtin;refine gS wr e rfl _ _ rfl (w.heap.size+1) _ l rfl ST' (by omega) Lj _ (by simp) rfl ?_;clear ST';intro v4 w4 uW eO F1 Qz;have Kj:ax (Rows w4 (w.heap.size+1) v4 (l++[e])):=uW;have kT:ax (au w w w4):=eX (BW.trans eO);clear uW eO F1);go_ret;exact⟨⟨_,rfl,by rw[HE1.out];exact Kj.mono (qW _)⟩,kT.out⟩
theorem Jy(t:aB bP)(e:bP)(p:aC aJ)(cap:aE)(w:aw)(hL:bI w p t)(hF:∀ e∈t,e.bm.size<=1048576)(he:e.bm.size<=1048576)(rE:t.length<=80):ay aP 100 #[ah p t.length cap,ar #[ai e.bm, aa ag e.bE, ai e.text, aq e.opq]] w (iq (uP t e) w):=
 qU t e p cap w hL hF he (by omega)
theorem FE{e:bP}:∀ (t o:aB bP),(∀ x∈t,0<cmp x.p e.p)->t.foldl (lv e) (o,aI)=(o++t,aI)
 | [],o,_=>by simp
 | x::r,o,h=>by
  have hx:=h x (by simp);have hne:¬ x.p=e.p:=fun he=>by rw[he,kY]at hx;exact aG hx (by decide)
  rw[uS,show lv e (o,aI) x=(o++[x],aI) by rw[lv,aW (by simp),aW hne],FE r _ fun y hy=>h y (by simp[hy])];simp
theorem N6{x:bP}{r:aB bP}(hs:b7 (x::r))(h:¬ cmp x.p e.p<0):∀ y∈r,0<cmp y.p e.p:=by
 intro y hy;have h1:cmp x.p y.p<0:=(eJ.1 hs).1 y hy;rw[oN];by_cases hxe:x.p=e.p
 ·rw[<- hxe];exact h1
 ·exact mY _ _ _ (CJ h hxe) h1
theorem DN{e:bP}:∀ (t o:aB bP),b7 t->(if(t.foldl (lv e) (o,aH)).2=aI then(t.foldl (lv e) (o,aH)).1 else(t.foldl (lv e) (o,aH)).1++[e])=o++kM t e
 | [],o,_=>by simp[kM]
 | x::r,o,hs=>by
  have hr:b7 r:=(eJ.1 hs).2;by_cases h:cmp x.p e.p<0
  ·have hne:¬ x.p=e.p:=fun he=>by rw[he,kY]at h;exact aG h (by decide)
   rw[uS,show lv e (o,aH) x=(o++[x],aH) by rw[lv,aW (fun c=>c.2 h),aW hne],DN r _ hr];have h2:¬ 0<cmp x.p e.p:=by omega
   simp[kM,h,h2]
  ·have C0:=N6 hs h
   have VB:r.filter (fun x=>decide (cmp x.p e.p<0))=[]:=by rw[BG];intro y hy;have:=C0 y hy;simp;omega
   have O3:r.filter (fun x=>decide (0<cmp x.p e.p))=r:=by rw[qb];intro y hy;simpa using C0 y hy
   rw[uS,show lv e (o,aH) x=(o++[e]++(if x.p=e.p then[]else[x]),aI) by rw[lv,aY ⟨rfl,h⟩],FE r _ C0];have hn:decide (cmp x.p e.p<0)=aH:=bD h;have hp:kM (x::r) e=e::((if x.p=e.p then[]else[x])++r):=by
    rw[kM,ZK (by rw[hn];decide),VB];by_cases he:x.p=e.p
    ·rw[ZK (by rw[he,kY];decide),O3,aY he];rfl
    ·rw[List.filter_cons_of_pos (by simpa using oN.2 (CJ h he)),O3,aW he];rfl
   rw[hp];simp
theorem FC(hs:b7 t)(e:bP):uP t e=kM t e:=by have:=DN (e:=e) t [] hs;rw[fo]at this;exact this
theorem Dp{q:aB aD}(hr:du aH t)(hq:q≠[]):(jd t q).length=0↔∀ x∈t,anG x.p q=aH:=by
 unfold jd;rw[bQ,dr,BG];constructor
 ·intro h x hx
  have key:∀ (n:aE) {e:bP},e.p.length<=n->e∈t->anG e.p q=aI->False:=by
   intro n;induction n with
   | zero=>intro e hl he hu;exact hr.ne he (bX (by omega))
   | succ n ih=>
    intro e hl he hu;rcases ru hq hu with h1|h1
    ·exact h e he (by simp[h1])
    ·rcases hr.dir e he with hd|⟨d,VA,mZ,_⟩
     ·obtain⟨r,e'⟩:=(eB _ _ hq).1 h1
      rw[hd]at e';simp at e'
     ·have Ep:=eY (hr.ne he)
      exact ih (e:=d) (by rw[mZ];omega) VA (by rw[mZ];exact h1)
  cases hc:anG x.p q with
  | false=>rfl
  | true=>exact(key _ (aV _) hx hc).elim
 ·intro h x hx
  simp;intro he;have:=jz (hr.ne hx) (by rw[he];exact hq);rw[he]at this;rw[h x hx]at this;cases this
def UL(ae:aF)(w:aw)(r:Ending)(w':aw):Prop:=(∃ v,r=aK (aL #[v,aa ag ae]))/\au w w w'
theorem OC{ae k:aF}{v:Value}{w':aw}(h:ae=k)(hB:au w w w'):UL ae w (aK (aL #[v,aa ag k])) w':=⟨⟨v,by rw[h]⟩,hB⟩
theorem Xp{l:aB (aB aD)}{args:Array Value}{f:aE}{P:Program}(h:ay P f args w (CA w l)):ay P f args w fun r w'=>∃ p c,r=aK (ah p l.length c)/\au w w w':=h.mono fun r w' ⟨⟨v,bs,hr,hS,hb⟩,hN⟩=>by
 have:l.length=bs.length:=by rw[<- hb,bQ]
 obtain⟨_,⟨rfl,h0⟩|⟨g,cap,_,rfl,_⟩⟩:=hS
 ·exact⟨aN,0,by rw[this,h0];exact hr,hN⟩
 ·exact⟨_,cap,by rw[this];exact hr,hN⟩
theorem bx4{W w1:aw}(h:au (w.heap.size+1) (w.alloc (aM #[ai e.bm, aa ag e.bE, ai e.text, aq e.opq] 88)) W)(g:au W W w1):au (w.heap.size+1) (w.alloc (aM #[ai e.bm, aa ag e.bE, ai e.text, aq e.opq] 88)) w1/\w.heap.size≠w1/\w.heap.size<w1.heap.size /\
  w1.cell? w=aO (ai e.bm)/\w1.cell? ⟨w,1,aN⟩=aO (aa ag e.bE)/\w1.cell? ⟨w,2,aN⟩=aO (ai e.text)/\w1.cell? ⟨w,3,aN⟩=aO (aq e.opq):=by
 have hB:=oC h g;have hs:=hB.size;simp at hs;obtain⟨⟨a,b,c,d⟩,_⟩:=iv (bC _) hB;exact⟨hB,by omega,by omega,a,b,c,d⟩
theorem o4{b:Bool}(hr:du b t)(he:e∈t):e.bm.size<=80/\e.text.size<=100:=by
 have h1:=hr.each e he;have hc:=hr.anI he;simp only[anI,fh,ew]at hc;refine⟨by rw[<- ix];exact hc.1,?_⟩;rcases gR 100 e.text.size with g|g
 ·unfold dv at h1;simp[g]at h1;repeat (split at h1<;>try omega)
 ·exact g
def V6(we:aF)(bx:Bool)(xk:aF)(bz:Bool)(zk ek:aF)(n:aE):aF:=
 if(we != 0)=aI then we else if(!bx)=aI then 6 else if(xk != 2)=aI then 10 else if bz=aI then(if(!((zk == 2) == (ek == 2)))=aI then 7 else 0)else if(80:aF)<=n then 5 else 0
theorem Tn{sl:aB bP}(hR:du aH sl)(e:bP):dW sl e=V6 (dv e aH) (bW sl (bU e.p)).isSome ((bW sl (bU e.p)).getD cR).bE (bW sl e.p).isSome ((bW sl e.p).getD cR).bE e.bE sl.length:=by
 have hl:=hR.len;unfold V6;by_cases hw:dv e aH=0
 ·rw[hw,aW (by decide)]
  have ha:j9 sl e=eL sl (bU e.p):=by
   rw[j9,kb,aY (by rw[iD hR]),kb,aY hw,kb];split
   ·rename_i h;rw[h];rfl
   ·rfl
  cases hd:bW sl (bU e.p)with
  | none=>
   have ha:j9 sl e=6:=by rw[ha,eL,hd]
   rw[oY (by rw[ha];decide),ha];rfl
  | some x=>
   by_cases hk:x.bE=2
   ·have ha:j9 sl e=0:=by rw[ha,eL,hd];simp[hk]
    cases hz:bW sl e.p with
    | none =>rw[yl ha (gU hz).2];simp[hk];split<;>split<;>omega
    | some z =>obtain⟨hm,hp⟩:=dK (gM (dX hw)) hz;rw[uq ha hm hp];simp[hk]
   ·have ha:j9 sl e=10:=by rw[ha,eL,hd];simp[hk]
    rw[oY (by rw[ha];decide),ha];simp[hk]
 ·rw[aY (by simpa using hw)]
  have:j9 sl e=dv e aH:=by rw[j9,kb,aY (by rw[iD hR]),kb,aW hw]
  rw[oY (by rw[this];exact hw),this]
theorem acN(sl:aB bP)(e:bP)(p:aC aJ)(n c:aE)(w:aw)(hn:n=sl.length)(hR:du aH sl)(hL:bI w p sl)(hc:n<=c)(he:e.bm.size<=1048576)(het:e.text.size<=1048576):ay aP 59 #[ah p n c,ar #[ai e.bm, aa ag e.bE, ai e.text, aq e.opq]] w (UL (dW sl e) w):=by
 have hF:∀ x∈sl,x.bm.size<=1048576/\x.text.size<=1048576:=fun x hx=>by have:=o4 hR hx;omega
 have oq:=hR.len;subst hn;have iM:=fun Y (hY:au w.heap.size w Y)=>jh sl aH p c Y (hL.bB hY) hF (by omega) hc
 simp only[iD hR]at iM;have BZ:=fun Y=>su e aH Y (by omega) (by unfold maxLen;omega)
 have oF:=fun Y=>kF e.bm Y (by omega)
 have ly:=fun Y (d:aA) (hd:d.data.toList=(kd e.bm).1) (hY:au w w Y)=>ij sl d p c Y (hL.bB hY) (by omega) _ _ (by rw[hd]) (by rw[hd])
 have uI:=fun Y (hY:au w.heap.size w Y)=>ij sl e.bm p c Y (hL.bB hY) (by omega) _ _ rfl rfl
 have D2:=fun Y (hY:au w.heap.size w Y)=>Jy sl e p c Y (hL.bB hY) (fun x hx=>(hF x hx).1) he oq
 have HE:ax _:=Tn hR e;have XD:ax (au (w.heap.size+1) (w.alloc (aM #[ai e.bm, aa ag e.bE, ai e.text, aq e.opq] 88)) (w.alloc (aM #[ai e.bm, aa ag e.bE, ai e.text, aq e.opq] 88))):=aR _ _;change ax (dW sl e=V6 (dv e aH) (bW sl (kd e.bm).1).isSome ((bW sl (kd e.bm).1).getD cR).bE (bW sl e.bm).isSome ((bW sl e.bm).getD cR).bE e.bE sl.length)at HE;generalize dW sl e=ae at HE ⊢;generalize dv e aH=we at BZ HE;generalize (bW sl (kd e.bm).1).getD cR=x at ly HE;generalize (bW sl (kd e.bm).1).isSome=bx at ly HE;generalize (bW sl e.bm).getD cR=z at uI HE;generalize (bW sl e.bm).isSome=bz at uI HE;generalize uP sl e=rl at D2;generalize sl.length=n at *;obtain⟨xp,xk,xt,xo⟩:=x;obtain⟨zp,zk,zt,zo⟩:=z;clear hF hL hR het;go_enter func59,ntmps59;go_wp2_with (first
  | (go_at_call 24;refine(iM _ (eX XD.out)).mono ?_;clear iM;rintro rr w1 ⟨rfl,hN⟩;obtain⟨hB,hne,gm,e0,e1,e2,e3⟩:=bx4 XD.out hN;clear hN;replace hB:=hB.alloc (Kr gm) (aM #[aa ag 0,aa ag 0] 56))
  | (go_at_call 49;refine(BZ _).mono ?_;clear BZ;rintro rr w2 ⟨rfl,hN⟩;clear hne gm e0 e1 e2 e3;obtain⟨hB,hne,gm,e0,e1,e2,e3⟩:=bx4 hB hN;clear hN)
  | (go_at_call 51;refine(oF _).mono ?_;clear oF;rintro rr w3 ⟨⟨d,nm,rfl,hd,xG⟩,wK⟩;clear xG hne gm e0 e1 e2 e3;obtain⟨hB,hne,gm,e0,e1,e2,e3⟩:=bx4 hB wK.below;clear wK)
  | (go_at_call 31;refine(ly _ d hd (eX hB)).mono ?_;clear ly;rintro rr w4 ⟨rfl,hN⟩;clear hne gm e0 e1 e2 e3;obtain⟨hB,hne,gm,e0,e1,e2,e3⟩:=bx4 hB hN;clear hN;replace hB:=hB.alloc (Kr gm) (aM #[ai xp,aa ag xk,ai xt,aq xo] 88))
  | (go_at_call 31;refine(uI _ (eX hB)).mono ?_;clear uI;rintro rr w5 ⟨rfl,hN⟩;clear hne gm e0 e1 e2 e3;obtain⟨hB,hne,gm,e0,e1,e2,e3⟩:=bx4 hB hN;clear hN;replace hB:=hB.alloc (Kr gm) (aM #[ai zp,aa ag zk,ai zt,aq zo] 88))
  | (go_at_call 100;refine(D2 _ (eX hB)).mono ?_;clear D2;rintro rr w6 ⟨⟨v6,rfl,OV⟩,hN⟩;replace hB:=oC hB hN;clear OV hN))
 all_goals
  go_ret2;exact OC (by rw[HE.out];simp only[V6, *,↓reduceIte,dI];try (split<;>omega)) (eX hB)
def Wa(bz em:Bool)(k:aE):aF:=if(!bz)=aI then 6 else if em=aI then 6 else if(0:aF)<k then 11 else 0
theorem Tx{sl:aB bP}(hR:du aH sl)(q:aA):eP sl q.data.toList=Wa (bW sl q).isSome q.toList.isEmpty (jd sl q).length:=by
 have h1:(cV aH sl).1=0:=by rw[iD hR]
 have h2:(¬ ∃ e∈sl,e.p=q.data.toList)->eP sl q.data.toList=6:=fun hm=>by rw[eP,kb,aY h1,kb,pC,aW hm];rfl
 unfold Wa;rw[bq];by_cases h0:q.data.toList=[]
 ·rw[h2 (by rintro⟨e,he,hp⟩;exact hR.ne he (hp.trans h0)),h0]
  split<;>rfl
 cases hz:bW sl q with
 | none=>rw[h2 (by rintro⟨e,he,hp⟩;exact(gU hz).2 e he hp)];rfl
 | some z=>
  obtain⟨hm,hp⟩:=dK h0 hz;have hE:eP sl q.data.toList=qc sl q.data.toList:=by
   rw[eP,kb,aY h1,kb,aY (by rw[pC,aY ⟨z,hm,hp⟩]),kb];split
   ·rename_i h;rw[h];rfl
   ·rfl
  rw[hE,qc];have hn:=Dp hR h0;simp only[Hr,mv,dI,↓reduceIte,N3,h0,dy];by_cases hk:(jd sl q).length=0
  ·rw[aW (fun⟨x,hx,e⟩=>by rw[hn.1 hk x hx]at e;cases e),aW (by omega)]
  ·rw[aY (Wv fun e=>hk (hn.2 fun x hx=>by cases hu:anG x.p q.data.toList;rfl;exact aG ⟨x,hx,hu⟩ e)),aY (by omega)]
theorem TH(sl:aB bP)(q:aA)(p:aC aJ)(n c:aE)(w:aw)(hn:n=sl.length)(hR:du aH sl)(hL:bI w p sl)(hc:n<=c)(hq:q.size<=maxLen):ay aP 62 #[ah p n c,ai q] w (UL (eP sl q) w):=by
 have hF:∀ x∈sl,x.bm.size<=1048576/\x.text.size<=1048576:=fun x hx=>by have:=o4 hR hx;omega
 have oq:=hR.len;subst hn;have iM:=fun Y (hY:au w.heap.size w Y)=>jh sl aH p c Y (hL.bB hY) hF (by omega) hc
 simp only[iD hR]at iM;have uI:=fun Y (hY:au w.heap.size w Y)=>ij sl q p c Y (hL.bB hY) (by omega) _ _ rfl rfl
 have Qu:=fun Y (hY:au w.heap.size w Y)=>Xp (uv sl q p c Y (hL.bB hY) (fun x hx=>(hF x hx).1) oq)
 have IX:=fun Y (hY:au w.heap.size w Y)=>rI sl q p c Y (hL.bB hY) (fun x hx=>(hF x hx).1) hq oq
 have HE:ax _:=Tx hR q;have hB:au w w w:=aR _ _;change ax (eP sl q.data.toList=Wa (bW sl q).isSome q.toList.isEmpty (jd sl q).length)at HE;generalize eP sl q.data.toList=ae at HE ⊢;generalize (bW sl q).getD cR=z at uI;generalize (bW sl q).isSome=bz at uI HE;generalize (jd sl q).length=k at Qu HE;generalize gP sl q.data.toList=rl at IX;generalize sl.length=n at *;obtain⟨zp,zk,zt,zo⟩:=z;clear hF hL hR;go_enter func62,ntmps62;go_wp2_with (first
  | (go_at_call 24;refine(iM _ hB).mono ?_;clear iM;rintro rr w1 ⟨rfl,hN⟩;replace hB:=(Below.bK hB hN).alloc (Below.bK hB hN).size (aM #[aa ag 0,aa ag 0] 56);clear hN)
  | (go_at_call 31;refine(uI _ hB).mono ?_;clear uI;rintro rr w2 ⟨rfl,hN⟩;replace hB:=(Below.bK hB hN).alloc (Below.bK hB hN).size (aM #[ai zp,aa ag zk,ai zt,aq zo] 88);clear hN)
  | (go_at_call 65;refine(Qu _ hB).mono ?_;clear Qu;rintro rr w3 ⟨a3,c3,rfl,hN⟩;replace hB:=Below.bK hB hN;clear hN)
  | (go_at_call 106;refine(IX _ hB).mono ?_;clear IX;rintro rr w4 ⟨⟨v4,rfl,uW⟩,hN⟩;replace hB:=Below.bK hB hN;clear hN uW))
 all_goals
  go_ret2;exact OC (by rw[HE.out];simp only[Wa, *,↓reduceIte,dI,mv,xg];try (split<;>omega)) hB
