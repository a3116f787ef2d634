import Derived.Test.YtjnkfelecopbjaaGreatDoorYA17
open Go.Proofs.Tryz
open Go.Value renaming int->aa,slice->ah,string->ai,bool->aq
open Go.IntKind renaming i64->ag
open Go.RowKit renaming Below->au
open Go renaming World->aw,Aside->ax,Calls->ay,Addr->aJ
open _root_ renaming ByteArray->aA,List->aB,Option->aC,UInt8->aD,Nat->aE,Int->aF,absurd->aG
open Bool renaming false->aH,true->aI
open Go.Obj renaming cells->aM
open Option renaming some->aO
open Go.Proofs.Tryz renaming prog->aP
set_option linter.all false
set_option maxHeartbeats 8000000
set_option maxRecDepth 100000
namespace Go.Proofs.YtjnkfelecopbjaaGreatDoor
open Go.RowKit PM Go.Sort
variable{e y:bP}{k:aE}{l own t:aB bP}{q:aB aD}
theorem T7(t:aB bP)(e:bP):(uP t e).length<=t.length+1/\∀ x∈uP t e,x=e\/x∈t:=by
 have key:∀ (t:aB bP) (s:aB bP × Bool),(t.foldl (lv e) s).1.length+(if(t.foldl (lv e) s).2 then 0 else 1)<=s.1.length+(if s.2 then 0 else 1)+t.length/\∀ x∈(t.foldl (lv e) s).1,x=e\/x∈s.1\/x∈t:=by
  intro t;induction t with
  | nil=>intro s;exact⟨aV _,fun x hx=>.inr (.inl hx)⟩
  | cons y r ih=>
   intro s;obtain⟨h1,h3⟩:=ih (lv e s y);have h4:(lv e s y).1.length+(if(lv e s y).2 then 0 else 1)<=s.1.length+(if s.2 then 0 else 1)+1/\∀ x∈(lv e s y).1,x=e\/x∈s.1\/x=y:=by
    unfold lv;split
    ·rename_i h
     rw[h.1];split<;>simp<;>grind
    ·split<;>simp<;>grind
   exact⟨by rw[uS,cj];omega,fun x hx=>by rcases h3 x hx with e|e|e;exact .inl e;(rcases h4.2 x e with e|e|e;exact .inl e;exact .inr (.inl e);exact .inr (.inr (by simp[e])));exact .inr (.inr (by simp[e]))⟩
 obtain⟨h1,h2⟩:=key t ([],aH);change (xL t e).1.length+(if(xL t e).2 then 0 else 1)<=_ at h1;unfold uP;split
 ·rename_i h
  rw[h]at h1;exact⟨by simpa[nA]using h1,fun x hx=>(h2 x hx).imp id fun e=>by simpa using e⟩
 ·rename_i h
  simp at h;rw[h]at h1;simp at h1;exact⟨by simp;omega,fun x hx=>(bZ.1 hx).elim (fun e=>(h2 x e).imp id fun e=>by simpa using e) fun e=>.inl (by simpa using e)⟩
theorem aaY(hR:du aH t)(h0:q≠[]):qc t q=if(0:aF)<(jd t q).length then 11 else 0:=by
 have hn:=Dp hR h0;simp only[qc,dy];by_cases hk:(jd t q).length=0
 ·rw[aW (fun⟨x,hx,e⟩=>by rw[hn.1 hk x hx]at e;cases e),aW (by omega)]
 ·rw[aY (Wv fun e=>hk (hn.2 fun x hx=>by cases hu:anG x.p q;rfl;exact aG ⟨x,hx,hu⟩ e)),aY (by omega)]
def N8(t:aB bP)(bS dst:aA):Bool:=t.any fun e=>jC bS e && !anI (ma bS dst e).p
def Xu(bt:Bool)(ak tk:aF)(k:aE):aF:=if bt=aI then(if((tk == 2) && !(ak == 2))=aI then 9 else if(!(tk == 2) && (ak == 2))=aI then 10 else if(0:aF)<k then 11 else 0)else 0
def LH(bf ef ct eq un bd:Bool)(xk rm:aF)(bad:Bool):aF:=
 if(!bf)=aI then 6 else if ef=aI then 6 else if(!ct)=aI then 7 else if eq=aI then 0 else if un=aI then 8 else if(!bd)=aI then 6 else if(xk != 2)=aI then 10 else if rm=0 then(if bad=aI then 4 else 0)else rm
theorem SY{sl:aB bP}(hR:du aH sl)(bS dst:aA):ez sl bS dst=LH (bW sl bS).isSome bS.toList.isEmpty (anI dst) (bS.toList == dst.toList) (anG dst bS) (bW sl (bU dst)).isSome ((bW sl (bU dst)).getD cR).bE (Xu (bW sl dst).isSome ((bW sl bS).getD cR).bE ((bW sl dst).getD cR).bE (jd sl dst).length) (N8 sl bS dst):=by
 have h1:(cV aH sl).1=0:=by rw[iD hR]
 have Xe:lR sl bS.data.toList=pC sl bS.data.toList:=by
  rw[lR,kb,aY h1,kb];split
  ·rename_i h;rw[h];rfl
  ·rfl
 have h6:(¬ ∃ e∈sl,e.p=bS.data.toList)->ez sl bS dst=6:=fun hm=>by
  have hA:lR sl bS.data.toList=6:=by rw[Xe,pC,aW hm]
  rw[ez,aW (by rw[hA];decide),hA]
 unfold LH;rw[bq,bq];by_cases h0:bS.data.toList=[]
 ·rw[h6 (by rintro⟨e,he,hp⟩;exact hR.ne he (hp.trans h0)),h0]
  split<;>rfl
 cases hz:bW sl bS with
 | none=>rw[h6 (by rintro⟨e,he,hp⟩;exact(gU hz).2 e he hp)];rfl
 | some a=>
  obtain⟨hm,hp⟩:=dK h0 hz;have hA:lR sl bS.data.toList=0:=by rw[Xe,pC,aY ⟨a,hm,hp⟩]
  rw[ez,aY hA];simp only[Hr,Option.getD_some,mv,dI,↓reduceIte,N3,h0];cases Nq:anI dst.data.toList
  ·simp
  simp only[↓reduceIte,mv,dI,Vc];by_cases qF:bS.data.toList=dst.data.toList
  ·rw[aY qF,aY qF]
  rw[aW qF,aW qF];cases hut:anG dst bS.data.toList;rotate_left
  ·rfl
  simp only[↓reduceIte,dI];have F6:pY sl bS dst=N8 sl bS dst:=by unfold pY N8;rw[dN,dy,dy];refine⟨fun⟨x,hx,h⟩=>⟨x,(jJ.1 hx).1,h⟩,fun⟨x,hx,h⟩=>⟨x,jJ.2 ⟨hx,fun e=>?_⟩,h⟩⟩;have h:=(Bool.and_eq_true_iff.1 h).1;unfold jC at h;rw[e,hut]at h;simp only[Xx,ew]at h;exact qF h.symm
  have zh:uN sl bS dst.data.toList=Xu (bW sl dst).isSome a.bE ((bW sl dst).getD cR).bE (jd sl dst).length:=by
   rw[uN,hz,aaY hR (gM Nq)];unfold Xu;cases bW sl dst with
   | none=>rfl
   | some b =>rfl
  rw[F6,qk,<- zh];generalize uN sl bS dst.data.toList=rm;rw[kb,kb,eL];cases bW sl (bU dst)with
  | none=>rfl
  | some d=>
   by_cases hk:d.bE=2
   ·simp only[hk,↓reduceIte,kb,Hr,Option.getD_some]
    split<;>simp_all
   ·simp[hk]
theorem Zo(sl:aB bP)(bS dst:aA)(p:aC aJ)(n c:aE)(w:aw)(hn:n=sl.length)(hR:du aH sl)(hL:bI w p sl)(hc:n<=c)(hf:bS.size<=1048576)(hd:dst.size<=1048576):ay aP 64 #[ah p n c,ai bS,ai dst] w (UL (ez sl bS dst) w):=by
 have hF:∀ x∈sl,x.bm.size<=1048576/\x.text.size<=1048576:=fun x hx=>by have:=o4 hR hx;omega
 have oq:=hR.len;subst hn;have iM:=fun Y (hY:au w.heap.size w Y)=>jh sl aH p c Y (hL.bB hY) hF (by omega) hc
 simp only[iD hR]at iM;have hgf:=fun Y (hY:au w.heap.size w Y)=>ij sl bS p c Y (hL.bB hY) (by omega) _ _ rfl rfl
 have mK:=fun Y (hY:au w.heap.size w Y)=>ij sl dst p c Y (hL.bB hY) (by omega) _ _ rfl rfl
 have mz:=fun Y=>uu dst Y (by omega)
 have nI:=fun Y=>oZ dst bS Y (by unfold maxLen;omega) (by unfold maxLen;omega)
 have oF:=fun Y=>kF dst Y (by omega)
 have ly:=fun Y (d:aA) (hd:d.data.toList=(kd dst).1) (hY:au w w Y)=>ij sl d p c Y (hL.bB hY) (by omega) _ _ (by rw[hd]) (by rw[hd])
 have Qu:=fun Y (hY:au w.heap.size w Y)=>Xp (uv sl dst p c Y (hL.bB hY) (fun x hx=>(hF x hx).1) oq)
 have qM:=fun Y (hY:au w.heap.size w Y)=>rI sl bS p c Y (hL.bB hY) (fun x hx=>(hF x hx).1) (by unfold maxLen;omega) oq
 have hE:=SY hR bS dst;change ez sl bS dst=LH (bW sl bS).isSome bS.toList.isEmpty (anI dst) (bS.toList == dst.toList) (anG dst bS) (bW sl (kd dst).1).isSome ((bW sl (kd dst).1).getD cR).bE (Xu (bW sl dst).isSome ((bW sl bS).getD cR).bE ((bW sl dst).getD cR).bE (jd sl dst).length) (N8 sl bS dst)at hE;have Cq:(gP sl bS).length<=80/\∀ x∈gP sl bS.data.toList,x.bm.size<=1048576:=⟨bc (ed _ _) oq,fun x hx=>(hF x (dS.1 hx).1).1⟩
 have xw:=fun Y p' c' (h':bI Y p' (gP sl bS.data.toList))=>rI (gP sl bS.data.toList) dst p' c' Y h' Cq.2 (by unfold maxLen;omega) Cq.1
 have Cr:(gP (gP sl bS) dst.data.toList).length<=80/\∀ x∈gP (gP sl bS) dst.data.toList,x.bm.size<=160:=⟨bc (ed _ _) Cq.1,fun x hx=>by have:=o4 hR (dS.1 (dS.1 hx).1).1;omega⟩
 have UP:ax (anI dst.data.toList=aI->dst.size<=80):=fun h=>fG h
 have HR:ax (du aH sl/\bI w p sl/\_):=⟨hR,hL,Cr⟩
 generalize gP (gP sl bS) dst.data.toList=r2 at xw HR;generalize gP sl bS.data.toList=r1 at qM xw;generalize ez sl bS dst=ae at hE ⊢;generalize (bW sl bS).getD cR=a at hgf hE;generalize (bW sl bS).isSome=bf at hgf hE;generalize anI dst.data.toList=ct at mz hE UP;generalize anG dst bS.data.toList=un at nI hE;generalize (bW sl (kd dst).1).getD cR=x at ly hE;generalize (bW sl (kd dst).1).isSome=bd at ly hE;generalize (bW sl dst).getD cR=b at mK hE;generalize (bW sl dst).isSome=bt at mK hE;generalize (jd sl dst).length=k at Qu hE;obtain⟨rm,Nu⟩:=ee (Xu bt a.bE b.bE k)
 obtain⟨bad,F6⟩:=ee (N8 sl bS dst)
 rw[<- Nu,<- F6]at hE;have HE:ax (_=_):=hE;have HM:ax (rm=Xu bt a.bE b.bE k/\bad=N8 sl bS dst):=⟨Nu,F6⟩
 generalize Co:sl.length=n at *;have HN:ax (sl.length=n):=Co;obtain⟨ap,ak,at',ao⟩:=a;obtain⟨xp,xk,xt,xo⟩:=x;obtain⟨bp,bk,bt',bo⟩:=b;have hB:au w w w:=aR _ _;clear hF hL hR hE Nu F6 Co Cq Cr;go_enter func64,ntmps64;go_upto_if 70 with(first
  | (go_at_call 24;refine(iM _ hB).mono ?_;clear iM;rintro rr w1 ⟨rfl,hN⟩;replace hB:=(Below.bK hB hN).alloc (Below.bK hB hN).size (aM #[aa ag 0,aa ag 0] 56);clear hN)
  | (go_at_call 31;refine(hgf _ hB).mono ?_;clear hgf;rintro rr w2 ⟨rfl,hN⟩;replace hB:=(Below.bK hB hN).alloc (Below.bK hB hN).size (aM #[ai ap,aa ag ak,ai at',aq ao] 88);clear hN;have hA:au (w2.heap.size+1) (w2.alloc (aM #[ai ap,aa ag ak,ai at',aq ao] 88)) (w2.alloc (aM #[ai ap,aa ag ak,ai at',aq ao] 88)):=aR _ _)
  | (go_at_call 97;refine(mz _).mono ?_;clear mz;rintro rr w3 ⟨rfl,hN⟩;replace hB:=Below.bK hB hN;replace hA:=oC hA hN;clear hN)
  | (go_at_call 36;refine(nI _).mono ?_;clear nI;rintro rr w4 ⟨rfl,rfl⟩)
  | (go_at_call 51;refine(oF _).mono ?_;clear oF;rintro rr w5 ⟨⟨d,nm,rfl,hd,xG⟩,hG⟩;replace hB:=Below.bK hB hG.below;replace hA:=oC hA hG.below;clear xG hG)
  | (go_at_call 31;refine(ly _ d hd hB).mono ?_;clear ly;rintro rr w6 ⟨rfl,hN⟩;replace hB:=(Below.bK hB hN).alloc (Below.bK hB hN).size (aM #[ai xp,aa ag xk,ai xt,aq xo] 88);replace hA:=NR (o2:=(aM #[ai xp,aa ag xk,ai xt,aq xo] 88)) (oC hA hN);clear hN)
  | (go_at_call 31;refine(mK _ hB).mono ?_;clear mK;rintro rr w7 ⟨rfl,hN⟩;replace hB:=(Below.bK hB hN).alloc (Below.bK hB hN).size (aM #[ai bp,aa ag bk,ai bt',aq bo] 88);replace hA:=NR (o2:=(aM #[ai bp,aa ag bk,ai bt',aq bo] 88)) (oC hA hN);clear hN))
 all_goals try
  go_ret2;exact OC (by rw[HE.out];simp only[LH, *,↓reduceIte,dI,mv,xg]) hB
 obtain⟨⟨_,a1,_⟩,_⟩:=iv (bC _) hA;have HB:ax _:=hB;clear hA hB;go_cut []from 71 to 91 (fun wx=>ax (au w w wx/\rm=0))
 case first=>
  cases bt
  ·go_wp2_with fail
   go_meet
   case rel=>exact⟨HB.out,HM.1⟩
  ·cases e1:(ak == 2)<;>cases e2:(bk == 2)
   all_goals
    have e3:(ak != 2) = !(ak == 2):=rfl;have e4:(bk != 2) = !(bk == 2):=rfl;rw[e1]at e3;rw[e2]at e4;go_wp2_with (go_at_call 65;refine(Qu _ HB.out).mono ?_;clear Qu;rintro rr w8 ⟨a8,c8,rfl,hN⟩;replace HB:ax _:=Below.bK HB.out hN;clear hN);all_goals first
     | (go_ret2;exact OC (by rw[HE.out,HM.1];simp only[LH,Xu, *,↓reduceIte,dI,mv,xg,GX,D8];try (split<;>omega)) HB.out)
     | (go_meet
        case rel=>exact⟨HB.out,by rw[HM.1];simp only[Xu, *,↓reduceIte,dI,mv,xg,GX,D8];try (split<;>omega)⟩)
 have hz:=hcut.2;have hB:=hcut.1;have Eg:dst.size<=80:=UP.out (by simpa using ‹(!ct)=aH›);clear hcut a1 HB;go_wp2_with (first
  | (go_at_call 106;refine(qM _ hB).mono ?_;clear qM;rintro rr w8 ⟨⟨v8,rfl,uF⟩,hN⟩;replace hB:=Below.bK hB hN;clear hN;obtain⟨p8,c8,rfl,BM,hc8,hn8⟩:=uF.form;clear uF)
  | (go_at_call 106;refine(xw _ p8 c8 BM).mono ?_;clear xw;rintro rr w9 ⟨⟨v9,rfl,hR9⟩,hN⟩;have HR9:ax (Rows w9 w v9 r2):=hR9.mono hB.size;have xO:ax (au w w w9):=Below.bK hB hN;clear hN hR9 hB BM))
 go_loopg [16,99] n (fun gg v i wr=>∃ k:aE,k<=n/\n-k<=gg/\i=aa ag k/\ax ((∃ o:aB bP,Rows wr w v o/\o.length<=80+k/\∀ x∈o,x.bm.size<=160)/\au w w wr/\((sl.take k).any fun e=>jC bS e && !anI (ma bS dst e).p)=aH))
 case atStart=>exact⟨0,bF _,by omega,rfl,⟨r2,HR9.out,HR.2.2.1,HR.2.2.2⟩,xO.out,by simp⟩
 case round=>
  obtain⟨k,hk,oP,rfl,HI⟩:=hrel;by_cases gm:k<n
  ·have eN:(k:aF)<(n:aF):=by omega
   obtain⟨y,hy⟩:∃ y,sl[k]?=aO y:=⟨_,aU (by have:=HN.out;omega)⟩
   have HY:ax (sl[k]?=aO y):=hy;have qg:=o4 HR.1 (bw hy);rcases HR.2.1 with h0|⟨b,off,rfl,hb,hc⟩
   ·rw[h0]at hy;simp at hy
   obtain⟨c0,c1,c2,c3⟩:=bI.cells hc hb HI.2.1 hy;clear hc hy;have Lj:w.heap.size<=wr.heap.size:=HI.2.1.size;have Gj:=fun W=>oZ y.bm bS W (by unfold maxLen;omega) (by unfold maxLen;omega)
   cases mq:jC bS y
   ·obtain⟨h1,h2⟩:=mj.1 mq
    obtain⟨e1,e2⟩:=j8 (gw h1);rw[show anG y.bm bS.data.toList=aH from h2]at Gj;have QM:ax _:=yO HY.out HI.2.2 (by rw[mq];rfl);clear h1 h2;go_wp2_with (go_at_call 36;refine(Gj _).mono ?_;rintro rr wx ⟨rfl,Hh⟩;subst wx);go_roundg (n-(k+1))
    case measure=>omega
    case rel =>obtain⟨⟨o,h1,h2,h3⟩,h4,_⟩:=HI.out;exact⟨k+1,by omega,by omega,by go_num,⟨o,h1.below ((aR _ _).alloc (aV _) _),by omega,h3⟩,h4.alloc h4.size _,QM.out⟩
   ·have iL:=vN mq
    have VN:(bS.size:aF)<=(y.bm.size:aF):=by omega
    obtain⟨new,j5⟩:=o7 (dst++y.bm.extract bS.size y.bm.size)
    have pj:new.size<=160:=by rw[<- j5];simp;omega
    have xX:=fun W=>uu new W (by omega)
    have UW:ax (anI (ma bS dst y).p=anI new):=by show _=_;rw[<- j5];rfl
    generalize anI new.data.toList=cn at xX UW;obtain⟨o,ho,VJ,gX⟩:=HI.1;obtain⟨po,co,rfl,WU,_,_⟩:=ho.form;have D2:=fun W (hW:au wr.heap.size wr W)=>qU o ⟨new,y.bE,y.text,y.opq⟩ po co W (WU.bB hW) (fun x hx=>by have:=gX x hx;omega) (by show new.size<=_;omega) (by omega)
    have HX:ax (au wr wr (wr.alloc (aM #[ai new,aa ag y.bE,ai y.text,aq y.opq] 88))):=(aR _ _).alloc (aV _) _;have HOL:ax (o.length<=80+k/\∀ x∈o,x.bm.size<=160):=⟨VJ,gX⟩
    have HIN:ax (jC bS y=aI):=mq;have SB:(y.bm.toList == bS.toList)=aH->∀ W,ay aP 36 #[ai y.bm,ai bS] W fun e w'=>e=.returned (aq aI)/\w'=W:=fun e W=>by have:=Gj W;unfold jC at mq;rw[show anG y.bm bS.data.toList=aI from(jx.1 mq).elim (fun g=>aG e (by rw[(kZ (dE g)).1];decide)) id]at this;exact this
    generalize o.length=ol at D2;clear ho VJ gX WU mq Gj;cases e1:(y.bm.toList == bS.toList);all_goals
     go_wp2_with (first
      | (go_at_call 36;refine(SB e1 _).mono ?_;clear SB;rintro rr wx ⟨rfl,Hh⟩;subst wx)
      | (go_at_call 97;refine(xX _).mono ?_;clear xX;rintro rr w3 ⟨rfl,hN⟩;have mm:ax (au wr wr w3):=Below.bK HX.out hN;obtain⟨⟨q0,q1,q2,q3⟩,_⟩:=iv (by simp) hN;clear hN)
      | (go_at_call 100;refine(D2 _ mm.out).mono ?_;clear D2;rintro rr w4 ⟨⟨v4,rfl,uW⟩,hN⟩;have H4:ax _:=fB uW hN;clear uW hN))
     all_goals first
      | (go_ret2
         have hb:bad=aI:=HM.2.trans (dy.2 ⟨y,bw HY.out,by rw[HIN.out,UW.out,Bool.true_and];assumption⟩);exact OC (by rw[HE.out];simp only[LH, *,↓reduceIte,dI,mv]) (Below.bK HI.2.1 mm.out))
      | (have QM : ax _:=yO HY.out HI.2.2 (by rw[UW.out,‹(!cn) = aH›,D8])
         go_roundg (n-(k+1))
         case measure=>omega
         case rel=>
          obtain⟨h1,h2⟩:=T7 o ⟨new,y.bE,y.text,y.opq⟩;exact⟨k+1,by omega,by omega,by go_num,⟨_,H4.1.mono (bc Lj mm.size),by have:=HOL.1;omega,fun x hx=>(h2 x hx).elim (fun e=>by rw[e];exact pj) (HOL.2 x)⟩,Below.bK HI.2.1 (Below.bK mm.out H4.2),QM.out⟩)
  ·obtain rfl:k=n:=by omega
   have eN:¬ (k:aF)<(k:aF):=by omega
   have hb:bad=aH:=by rw[HM.2];have:=HI.2.2;rw[<- HN.out,gh]at this;exact this
   go_wp2;go_ret2;exact OC (by rw[HE.out];simp only[LH, *,↓reduceIte,dI,mv]) HI.2.1
theorem zA:∀ (ms b:aB bP),b7 b->b7 (iV b ms)
 | [],b,h=>h
 | m::ms,b,h=>zA ms (kM b m) (iw h m)
theorem Jq:∀ (ms b:aB bP),b7 b->(iV b ms).length<=b.length+ms.length
 | [],b,h=>aV _
 | m::ms,b,h=>by
  have h1:=Jq ms (kM b m) (iw h m);have h2:=sq (e:=m) h;have h3:(kM b m).length<=b.length+1:=by rw[h2];split<;>omega
  show(iV (kM b m) ms).length<=_;rw[cj];omega
theorem Fk{P:bP->Prop}:∀ (ms b:aB bP),(∀ x∈b,P x)->(∀ m∈ms,P m)->∀ x∈iV b ms,P x
 | [],b,hb,_=>hb
 | m::ms,b,hb,hm=>Fk ms (kM b m) (fun x hx=>by
   rcases jo.1 hx with rfl|⟨hx,_⟩
   ·exact hm _ (by simp)
   ·exact hb x hx) (fun y hy=>hm y (jc _ hy))
theorem Md(b ms:aB bP)(m:bP):iV b (ms++[m])=kM (iV b ms) m:=by simp[iV]
def Bz(l:aB bP)(q:aB aD):Bool:=match bW l q with|some e => !(e.bE == 2) || e.opq|none=>aH
def qG(l:aB bP)(q:aB aD):Bool:=if h:q=[]then aH else Bz l q || qG l (bU q)
termination_by q.length
decreasing_by exact eY h
def jr(l:aB bP)(q:aB aD):Bool:=(match bW l q with|some e => !(e.bE == 2)|none=>aH) || qG l (bU q)
theorem rp(l:aB bP):qG l []=aH:=by rw[qG];simp
theorem uw(h:q≠[]):qG l q=(Bz l q || qG l (bU q)):=by rw[qG,BK h]
theorem anV(hq:q≠[]):anG [] q=aH:=by
 cases h:anG [] q with
 | false=>rfl
 | true =>obtain⟨r,hr⟩:=(eB _ _ hq).1 h;simp at hr
theorem mS{p:aB aD}(hp:p≠[])(hq:q≠[]):anG p q=aI↔bU p≠[]/\(bU p=q\/anG (bU p) q=aI):=by
 constructor
 ·intro h
  have:=ru hq h;refine⟨fun h0=>?_,this⟩;rw[h0]at this;rcases this with h1|h1
  ·exact hq h1.symm
  ·rw[anV hq]at h1;cases h1
 ·rintro⟨h0,h1|h1⟩
  ·rw[<- h1];exact jz hp h0
  ·exact o6 h0 hq (jz hp h0) h1
theorem PZ(hr:du aI l):∀ (n:aE) (q:aB aD),q.length<=n->(qG l q=aI↔q≠[]/\∃ e∈l,(e.p=q\/anG q e.p=aI)/\(!(e.bE == 2) || e.opq)=aI):=by
 intro n;induction n with
 | zero =>intro q hq;have:q=[]:=bX (by omega);subst this;rw[rp];simp
 | succ n ih=>
  intro q hq;by_cases h:q=[]
  ·subst h;rw[rp];simp
  ·rw[uw h,gZ,ih (bU q) (by have:=eY h;omega)]
   constructor
   ·rintro(h1|⟨h1,e,he,h2,h3⟩)
    ·refine⟨h,?_⟩
     unfold Bz at h1;cases hg:bW l q with
     | none=>rw[hg]at h1;cases h1
     | some e =>rw[hg]at h1;obtain⟨hm,hp⟩:=dK h hg;exact⟨e,hm,.inl hp,h1⟩
    ·refine⟨h,e,he,.inr ((mS h (hr.ne he)).2 ⟨h1,?_⟩),h3⟩
     rcases h2 with h2|h2
     ·exact .inl h2.symm
     ·exact .inr h2
   ·rintro⟨_,e,he,h2,h3⟩
    rcases h2 with h2|h2
    ·left
     have:=kW hr.anF he (hr.ne he);rw[h2]at this;unfold Bz;rw[this];exact h3
    ·right
     obtain⟨h1,h4⟩:=(mS h (hr.ne he)).1 h2;refine⟨h1,e,he,?_,h3⟩;rcases h4 with h4|h4
     ·exact .inl h4.symm
     ·exact .inr h4
theorem PV(hr:du aI l)(q:aB aD):jr l q=fM l q:=by
 rw[dN];unfold jr fM;rw[gZ,dy,PZ hr _ _ (aV _)];by_cases h:q=[]
 ·subst h
  have h0:bU ([]:aB aD)=[]:=by have:=nD ([]:aB aD);exact bX (by simpa using this)
  rw[h0,iE];constructor
  ·rintro(h1|⟨h1,_⟩)
   ·simp[tT]at h1
   ·exact aG rfl h1
  ·rintro⟨e,he,h1⟩
   unfold fL at h1;rw[anV (hr.ne he)]at h1;simp[hr.ne he]at h1
 ·constructor
  ·rintro(h1|⟨h1,e,he,h2,h3⟩)
   ·cases hg:bW l q with
    | none=>rw[hg]at h1;cases h1
    | some e =>rw[hg]at h1;obtain⟨hm,hp⟩:=dK h hg;exact⟨e,hm,by unfold fL;rw[hp];simp at h1 ⊢;exact .inl h1⟩
   ·refine⟨e,he,?_⟩
    unfold fL;rw[(mS h (hr.ne he)).2 ⟨h1,by rcases h2 with h2|h2;exact .inl h2.symm;exact .inr h2⟩];simp at h3 ⊢;exact .inr h3
  ·rintro⟨e,he,h1⟩
   unfold fL at h1;rcases gZ _ _▸h1 with h1|h1
   ·left
    simp at h1;have:=kW hr.anF he (hr.ne he);rw[h1.1]at this;rw[this];simpa using h1.2
   ·right
    rw[fh]at h1;obtain⟨h2,h4⟩:=(mS h (hr.ne he)).1 h1.1;refine⟨h2,e,he,?_,h1.2⟩;rcases h4 with h4|h4
    ·exact .inl h4.symm
    ·exact .inr h4
theorem zC(l:aB bP)(q0:aA)(p:aC aJ)(cap:aE)(w:aw)(hL:bI w p l)(hn:l.length<4611686018427387904)(hq:q0.size<4611686018427387904):ay aP 99 #[ah p l.length cap,ai q0] w fun r w'=>r=.returned (aq (jr l q0))/\au w w w':=by
 obtain⟨⟨xp,xk,xt,xo⟩,IY⟩:∃ x,(bW l q0).getD cR=x:=⟨_,rfl⟩
 obtain⟨bb,pN⟩:=o7 ((bW l q0).isSome)
 have gI:=ij l q0 p cap w hL hn ⟨xp,xk,xt,xo⟩ bb IY pN;have oF:=fun W=>kF q0 W hq
 have QI:ax (∀ (dq:aA) W,au w w W->∀ x b,(bW l dq).getD cR=x->(bW l dq).isSome=b->ay aP 31 #[ah p l.length cap,ai dq] W fun r w'=>r=.returned (.tuple #[.agg #[ai x.bm, aa ag x.bE, ai x.text, aq x.opq],aq b])/\au W W w'):=
  fun dq W hB x b hx hb=>ij l dq p cap W (hL.bB hB) hn x b hx hb
 have HF:(bb=aI/\¬ xk=2/\ax (jr l q0.data.toList=aI))\/((bb=aH\/xk=2)/\ax (jr l q0.data.toList=qG l (bU q0))):=by
  unfold jr;cases hg:bW l q0 with
  | none =>rw[hg]at pN;exact .inr ⟨.inl pN.symm,by simp[ax]⟩
  | some z=>
   rw[hg]at pN IY;obtain rfl:z=⟨xp,xk,xt,xo⟩:=IY;by_cases hk:xk=2
   ·exact .inr ⟨.inr hk,by simp[ax,hk]⟩
   ·exact .inl ⟨pN.symm,hk,by simp[ax,hk]⟩
 obtain⟨n,eK⟩:=ee l.length
 rw[<- eK]at gI QI;rw[<- eK];clear eK hL hn IY pN;rcases HF with⟨rfl,hk,HR⟩|⟨hk,HR⟩
 ·clear oF QI
  go_enter func99,ntmps99;go_wp2_with (go_at_call 31;refine gI.mono ?_;clear gI;rintro rr w1 ⟨rfl,hN⟩;have lV:ax (au w w (w1.alloc (aM #[ai xp,aa ag xk,ai xt,aq xo] 88))):=hN.alloc hN.size _;clear hN);go_ret;exact⟨df HR.symm,lV.out⟩
 ·have tH:(bb=aH)\/(bb=aI/\xk=2):=by
   cases bb
   ·exact .inl rfl
   ·rcases hk with h|h
    ·cases h
    ·exact .inr ⟨rfl,h⟩
  clear hk;rcases tH with rfl|⟨rfl,rfl⟩
  ·go_enter func99,ntmps99
   go_wp2_with (first
    | (go_at_call 31;refine gI.mono ?_;clear gI;rintro rr w1 ⟨rfl,hN⟩;have lV:ax (au w w (w1.alloc (aM #[ai xp,aa ag xk,ai xt,aq xo] 88))):=hN.alloc hN.size _;clear hN)
    | (go_at_call 51;refine(oF _).mono ?_;clear oF;rintro rr w2 ⟨⟨d,nm,rfl,hd,xG⟩,hG⟩;have nN:ax (au w w w2):=Below.bK lV.out hG.below;have HD:ax (d.data.toList=bU q0):=hd;clear xG hG hd))
   go_loopg [7] (q0.size+1) (fun gg v wr=>∃ dq:aA,v=ai dq/\dq.size<=gg/\dq.size<=q0.size/\ax (qG l dq.data.toList=jr l q0)/\ax (au w w wr))
   case atStart=>exact⟨d,rfl,by have:=nD q0.data.toList;rw[<- HD.out,ix,ix]at this;omega,by have:=nD q0.data.toList;rw[<- HD.out,ix,ix]at this;omega,by show _=_;rw[HD.out,HR.out],nN.out⟩
   case round=>
    obtain⟨dq,rfl,oP,iL,RH,BW⟩:=hrel;by_cases DW:dq.data.toList=[]
    ·have wN:=lX DW
     have HE:ax (jr l q0.data.toList=aH):=by show _=_;rw[<- RH.out,DW,rp]
     clear QI;go_wp2;go_ret;exact⟨df HE.symm,BW.out⟩
    ·have wN:=jA DW
     obtain⟨⟨yp,yk,yt,yo⟩,SG⟩:∃ x,(bW l dq).getD cR=x:=⟨_,rfl⟩
     obtain⟨cc,pj⟩:∃ bb,(bW l dq).isSome=bb:=⟨_,rfl⟩
     have gI:=QI.out dq wr BW.out ⟨yp,yk,yt,yo⟩ cc SG pj;have oF:=fun W=>kF dq W (by omega)
     have Ep:=eY DW;rw[ix]at Ep;have NZ:ax ((bU dq).length<dq.size):=Ep;have HT:(cc=aI/\¬ yk=2/\ax (jr l q0.data.toList=aI))\/(cc=aI/\yk=2/\yo=aI/\ax (jr l q0.data.toList=aI))\/(cc=aI/\yk=2/\yo=aH/\ax (qG l (bU dq)=jr l q0))\/(cc=aH/\ax (qG l (bU dq)=jr l q0)):=by
      have h1:=RH.out;rw[uw DW]at h1;unfold Bz at h1;cases hg:bW l dq with
      | none =>rw[hg]at pj h1;exact .inr (.inr (.inr ⟨pj.symm,by simpa[ax]using h1⟩))
      | some z=>
       rw[hg]at pj SG h1;obtain rfl:z=⟨yp,yk,yt,yo⟩:=SG;by_cases hk:yk=2
       ·cases yo with
        | true=>exact .inr (.inl ⟨pj.symm,hk,rfl,by show _=_;rw[<- h1];simp⟩)
        | false=>exact .inr (.inr (.inl ⟨pj.symm,hk,rfl,by show _=_;rw[<- h1];simp[hk]⟩))
       ·exact .inl ⟨pj.symm,hk,by show _=_;rw[<- h1];simp[hk]⟩
     clear SG pj Ep QI;rcases HT with⟨rfl,hk,HE⟩|⟨rfl,rfl,rfl,HE⟩|⟨rfl,rfl,rfl,HE⟩|⟨rfl,HE⟩
     ·clear oF
      go_wp2_with (go_at_call 31;refine gI.mono ?_;clear gI;rintro rr w3 ⟨rfl,hN⟩;have mm:ax (au w w (w3.alloc (aM #[ai yp,aa ag yk,ai yt,aq yo] 88))):=(Below.bK BW.out hN).alloc (Below.bK BW.out hN).size _;clear hN);go_ret;exact⟨df HE.symm,mm.out⟩
     ·clear oF
      go_wp2_with (go_at_call 31;refine gI.mono ?_;clear gI;rintro rr w3 ⟨rfl,hN⟩;have mm:ax (au w w (w3.alloc (aM #[ai yp,aa ag 2,ai yt,aq aI] 88))):=(Below.bK BW.out hN).alloc (Below.bK BW.out hN).size _;clear hN);go_ret;exact⟨df HE.symm,mm.out⟩
     ·go_wp2_with (first
       | (go_at_call 31;refine gI.mono ?_;clear gI;rintro rr w3 ⟨rfl,hN⟩;have mm:ax (au w w (w3.alloc (aM #[ai yp,aa ag 2,ai yt,aq aH] 88))):=(Below.bK BW.out hN).alloc (Below.bK BW.out hN).size _;clear hN)
       | (go_at_call 51;refine(oF _).mono ?_;clear oF;rintro rr w4 ⟨⟨d2,nm2,rfl,sY,Le⟩,Ah⟩;have kT:ax (au w w w4):=Below.bK mm.out Ah.below;have Kh:ax (d2.data.toList=bU dq):=sY;clear Le Ah sY))
      go_roundg (dq.size-1)
      case measure=>have:=NZ.out;omega
      case rel=>exact⟨d2,rfl,by have:=NZ.out;rw[<- Kh.out,ix]at this;omega,by have:=NZ.out;rw[<- Kh.out,ix]at this;omega,by show _=_;rw[Kh.out,HE.out],kT.out⟩
     ·go_wp2_with (first
       | (go_at_call 31;refine gI.mono ?_;clear gI;rintro rr w3 ⟨rfl,hN⟩;have mm:ax (au w w (w3.alloc (aM #[ai yp,aa ag yk,ai yt,aq yo] 88))):=(Below.bK BW.out hN).alloc (Below.bK BW.out hN).size _;clear hN)
       | (go_at_call 51;refine(oF _).mono ?_;clear oF;rintro rr w4 ⟨⟨d2,nm2,rfl,sY,Le⟩,Ah⟩;have kT:ax (au w w w4):=Below.bK mm.out Ah.below;have Kh:ax (d2.data.toList=bU dq):=sY;clear Le Ah sY))
      go_roundg (dq.size-1)
      case measure=>have:=NZ.out;omega
      case rel=>exact⟨d2,rfl,by have:=NZ.out;rw[<- Kh.out,ix]at this;omega,by have:=NZ.out;rw[<- Kh.out,ix]at this;omega,by show _=_;rw[Kh.out,HE.out],kT.out⟩
  ·go_enter func99,ntmps99
   go_wp2_with (first
    | (go_at_call 31;refine gI.mono ?_;clear gI;rintro rr w1 ⟨rfl,hN⟩;have lV:ax (au w w (w1.alloc (aM #[ai xp,aa ag 2,ai xt,aq xo] 88))):=hN.alloc hN.size _;clear hN)
    | (go_at_call 51;refine(oF _).mono ?_;clear oF;rintro rr w2 ⟨⟨d,nm,rfl,hd,xG⟩,hG⟩;have nN:ax (au w w w2):=Below.bK lV.out hG.below;have HD:ax (d.data.toList=bU q0):=hd;clear xG hG hd))
   go_loopg [7] (q0.size+1) (fun gg v wr=>∃ dq:aA,v=ai dq/\dq.size<=gg/\dq.size<=q0.size/\ax (qG l dq.data.toList=jr l q0)/\ax (au w w wr))
   case atStart=>exact⟨d,rfl,by have:=nD q0.data.toList;rw[<- HD.out,ix,ix]at this;omega,by have:=nD q0.data.toList;rw[<- HD.out,ix,ix]at this;omega,by show _=_;rw[HD.out,HR.out],nN.out⟩
   case round=>
    obtain⟨dq,rfl,oP,iL,RH,BW⟩:=hrel;by_cases DW:dq.data.toList=[]
    ·have wN:=lX DW
     have HE:ax (jr l q0.data.toList=aH):=by show _=_;rw[<- RH.out,DW,rp]
     clear QI;go_wp2;go_ret;exact⟨df HE.symm,BW.out⟩
    ·have wN:=jA DW
     obtain⟨⟨yp,yk,yt,yo⟩,SG⟩:∃ x,(bW l dq).getD cR=x:=⟨_,rfl⟩
     obtain⟨cc,pj⟩:∃ bb,(bW l dq).isSome=bb:=⟨_,rfl⟩
     have gI:=QI.out dq wr BW.out ⟨yp,yk,yt,yo⟩ cc SG pj;have oF:=fun W=>kF dq W (by omega)
     have Ep:=eY DW;rw[ix]at Ep;have NZ:ax ((bU dq).length<dq.size):=Ep;have HT:(cc=aI/\¬ yk=2/\ax (jr l q0.data.toList=aI))\/(cc=aI/\yk=2/\yo=aI/\ax (jr l q0.data.toList=aI))\/(cc=aI/\yk=2/\yo=aH/\ax (qG l (bU dq)=jr l q0))\/(cc=aH/\ax (qG l (bU dq)=jr l q0)):=by
      have h1:=RH.out;rw[uw DW]at h1;unfold Bz at h1;cases hg:bW l dq with
      | none =>rw[hg]at pj h1;exact .inr (.inr (.inr ⟨pj.symm,by simpa[ax]using h1⟩))
      | some z=>
       rw[hg]at pj SG h1;obtain rfl:z=⟨yp,yk,yt,yo⟩:=SG;by_cases hk:yk=2
       ·cases yo with
        | true=>exact .inr (.inl ⟨pj.symm,hk,rfl,by show _=_;rw[<- h1];simp⟩)
        | false=>exact .inr (.inr (.inl ⟨pj.symm,hk,rfl,by show _=_;rw[<- h1];simp[hk]⟩))
       ·exact .inl ⟨pj.symm,hk,by show _=_;rw[<- h1];simp[hk]⟩
     clear SG pj Ep QI;rcases HT with⟨rfl,hk,HE⟩|⟨rfl,rfl,rfl,HE⟩|⟨rfl,rfl,rfl,HE⟩|⟨rfl,HE⟩
     ·clear oF
      go_wp2_with (go_at_call 31;refine gI.mono ?_;clear gI;rintro rr w3 ⟨rfl,hN⟩;have mm:ax (au w w (w3.alloc (aM #[ai yp,aa ag yk,ai yt,aq yo] 88))):=(Below.bK BW.out hN).alloc (Below.bK BW.out hN).size _;clear hN);go_ret;exact⟨df HE.symm,mm.out⟩
     ·clear oF
      go_wp2_with (go_at_call 31;refine gI.mono ?_;clear gI;rintro rr w3 ⟨rfl,hN⟩;have mm:ax (au w w (w3.alloc (aM #[ai yp,aa ag 2,ai yt,aq aI] 88))):=(Below.bK BW.out hN).alloc (Below.bK BW.out hN).size _;clear hN);go_ret;exact⟨df HE.symm,mm.out⟩
     ·go_wp2_with (first
       | (go_at_call 31;refine gI.mono ?_;clear gI;rintro rr w3 ⟨rfl,hN⟩;have mm:ax (au w w (w3.alloc (aM #[ai yp,aa ag 2,ai yt,aq aH] 88))):=(Below.bK BW.out hN).alloc (Below.bK BW.out hN).size _;clear hN)
       | (go_at_call 51;refine(oF _).mono ?_;clear oF;rintro rr w4 ⟨⟨d2,nm2,rfl,sY,Le⟩,Ah⟩;have kT:ax (au w w w4):=Below.bK mm.out Ah.below;have Kh:ax (d2.data.toList=bU dq):=sY;clear Le Ah sY))
      go_roundg (dq.size-1)
      case measure=>have:=NZ.out;omega
      case rel=>exact⟨d2,rfl,by have:=NZ.out;rw[<- Kh.out,ix]at this;omega,by have:=NZ.out;rw[<- Kh.out,ix]at this;omega,by show _=_;rw[Kh.out,HE.out],kT.out⟩
     ·go_wp2_with (first
       | (go_at_call 31;refine gI.mono ?_;clear gI;rintro rr w3 ⟨rfl,hN⟩;have mm:ax (au w w (w3.alloc (aM #[ai yp,aa ag yk,ai yt,aq yo] 88))):=(Below.bK BW.out hN).alloc (Below.bK BW.out hN).size _;clear hN)
       | (go_at_call 51;refine(oF _).mono ?_;clear oF;rintro rr w4 ⟨⟨d2,nm2,rfl,sY,Le⟩,Ah⟩;have kT:ax (au w w w4):=Below.bK mm.out Ah.below;have Kh:ax (d2.data.toList=bU dq):=sY;clear Le Ah sY))
      go_roundg (dq.size-1)
      case measure=>have:=NZ.out;omega
      case rel=>exact⟨d2,rfl,by have:=NZ.out;rw[<- Kh.out,ix]at this;omega,by have:=NZ.out;rw[<- Kh.out,ix]at this;omega,by show _=_;rw[Kh.out,HE.out],kT.out⟩
abbrev U8(w:aw)(p:aC aJ)(n cap:aE)(b:Bool)(f1 f2:aF):Prop:=∀ W,au w w W->ay aP 24 #[ah p n cap,aq b] W fun r w'=>r=.returned (.agg #[aa ag f1,aa ag f2])/\au W.heap.size W w'
theorem qm{w:aw}{aS:aE}{v:Value}{n:aE}(hn:n=l.length)(h:Rows w aS v l):∃ p c,v=ah p n c/\bI w p l/\n<=c/\(p=none->c=0)/\∀ b off s,p=aO ⟨b,off,s⟩->aS<=b:=by
 subst hn;obtain⟨p,c,hv,hL,h3,h4⟩:=h.form;refine⟨p,c,hv,hL,h3,h4,fun b off s hp=>?_⟩;obtain⟨_,⟨h2,_⟩|⟨g,cap,eI,h2,hg,_⟩⟩:=h<;>rw[h2]at hv<;>simp only[Value.slice.injEq]at hv<;>rw[<- hv.1]at hp<;>cases hp
 exact hg
theorem acI(pl p:aC aJ)(nl nR n cap:aE)(w:aw)(f1:aF)(f2:aE)(h1:¬ f1=0)(iM:U8 w pl nl nR aI f1 (f2:aF)):ay aP 52 #[ah pl nl nR,ah p n cap] w (gp f1 [] w):=by have hB:au w w w:=aR _ _;go_enter func52,ntmps52;go_wp2_with (go_at_call 24;refine(iM _ hB).mono ?_;clear iM hB;rintro rr w1 ⟨rfl,hB⟩;replace hB:=hB.alloc hB.size (aM #[aa ag f1,aa ag (f2:aF)] 56));go_quiet (fail);replace hB:=cG hB nq;go_wp2;go_ret2;exact gp.none hB
theorem acJ(pl p:aC aJ)(nl nR n cap:aE)(w:aw)(yF:U8 w pl nl nR aI 0 0)(f1:aF)(f2:aE)(h1:¬ f1=0)(iM:U8 w p n cap aH f1 (f2:aF)):ay aP 52 #[ah pl nl nR,ah p n cap] w (gp f1 [] w):=by
 have hB:au w w w:=aR _ _;go_enter func52,ntmps52;go_wp2_with (first
  | (go_at_call 24;refine(yF _ hB).mono ?_;clear yF;rintro rr w1 ⟨rfl,hN⟩;replace hB:=(Below.bK hB hN).alloc (Below.bK hB hN).size (aM #[aa ag 0,aa ag 0] 56);clear hN)
  | (go_at_call 24;refine(iM _ hB).mono ?_;clear iM;rintro rr w2 ⟨rfl,hN⟩;replace hB:=(Below.bK hB hN).alloc (Below.bK hB hN).size (aM #[aa ag f1,aa ag (f2:aF)] 56);clear hN))
 go_quiet (fail);replace hB:=cG hB nq;go_wp2;go_ret2;exact gp.none hB
def kS(l t:aB bP):aB bP:=t.filter fun e => !jr l e.p
theorem Ms(hy:t[k]?=aO y):kS l (t.take (k+1))=kS l (t.take k)++(if jr l y.p then[]else[y]):=by unfold kS;rw[gi hy,eu];cases h1:jr l y.p<;>simp[h1]
theorem Tp{b:aB bP}(hs:b7 b)(hy:l[k]?=aO y)(hk:¬ y.bE=4):iV b (jg (l.take (k+1)))=uP (iV b (jg (l.take k))) (kX y):=by rw[FC (zA _ _ hs),zw hy,aW hk,Md]
theorem PS{b:aB bP}(hy:l[k]?=aO y)(hk:y.bE=4):iV b (jg (l.take (k+1)))=iV b (jg (l.take k)):=by rw[zw hy,aY hk,fj]
theorem acK(l t:aB bP)(pl p:aC aJ)(nl nR n cap:aE)(w:aw)(Iz:bI w pl l)(hL:bI w p t)(WA:ax (nl=l.length))(HN:ax (n=t.length))(rS:nl<=80)(rE:n<=80)(hF:∀ e∈t,e.bm.size<=1048576)(G7:∀ e∈l,e.bm.size<=1048576)(hs:b7 t)(yF:U8 w pl nl nR aI 0 0)(iM:U8 w p n cap aH 0 0)(A0:ax (∀ (y:bP) W,y∈t->au w w W->ay aP 99 #[ah pl nl nR,ai y.bm] W fun r w'=>r=.returned (aq (jr l y.p))/\au W W w')):ay aP 52 #[ah pl nl nR,ah p n cap] w fun r w'=>
   (80<(iV (kS l t) (jg l)).length/\gp 5 [] w r w')\/(¬ 80<(iV (kS l t) (jg l)).length/\gp 0 (iV (kS l t) (jg l)) w r w'):=by
 have HL:ax (bI w p t):=hL;have HLl:ax (bI w pl l):=Iz;have HS:ax (b7 (kS l t)):=dY _ hs;have HF:ax (∀ e∈t,e.bm.size<=1048576):=hF;have Zy:ax (∀ e∈l,e.bm.size<=1048576):=G7;clear hL Iz hs hF G7;have hB:au w w w:=aR _ _;go_enter func52,ntmps52;go_wp2_with (first
  | (go_at_call 24;refine(yF _ hB).mono ?_;clear yF;rintro rr w1 ⟨rfl,hN⟩;replace hB:=(Below.bK hB hN).alloc (Below.bK hB hN).size (aM #[aa ag 0,aa ag 0] 56);clear hN)
  | (go_at_call 24;refine(iM _ hB).mono ?_;clear iM;rintro rr w2 ⟨rfl,hN⟩;replace hB:=(Below.bK hB hN).alloc (Below.bK hB hN).size (aM #[aa ag 0,aa ag 0] 56);clear hN;have HB:ax (au w w (w2.alloc (aM #[aa ag 0,aa ag 0] 56))):=hB))
 go_loopg [8,29] n (fun gg v i wr=>∃ (k:aE) (r:aB bP),k<=n/\n-k<=gg/\i=aa ag k/\r.length<=k/\ax (Rows wr w v r)/\ax (au w w wr)/\ax (r=kS l (t.take k)))
 case atStart=>exact⟨0,[],bF _,by omega,rfl,aV _,Rows.nil _ _,HB.out,rfl⟩
 case round=>
  obtain⟨k,r,hk,oP,rfl,xV,ST,BW,NM⟩:=hrel;by_cases gm:k<n
  ·have eN:(k:aF)<(n:aF):=by omega
   obtain⟨y,hy⟩:∃ y,t[k]?=aO y:=⟨_,aU (by have:=HN.out;omega)⟩
   have HY:ax (t[k]?=aO y):=hy;have HM:ax (y∈t):=bw hy;rcases HL.out with h0|⟨b,off,rfl,hb,hc⟩
   ·rw[h0]at hy;simp at hy
   obtain⟨c0,c1,c2,c3⟩:=bI.cells hc hb BW.out hy;clear hc hy;have Lj:w.heap.size<=wr.heap.size:=BW.size;have hh:=fun W=>A0.out y W HM.out
   have uY:ax (kS l (t.take (k+1))=r++(if jr l y.p then[]else[y])):=by show _=_;rw[Ms HY.out,NM.out]
   generalize jr l y.p=hd at hh uY;cases hd with
   | true=>
    have HE:ax (kS l (t.take (k+1))=r):=by show _=_;rw[uY.out];simp
    go_wp2_with (go_at_call 99;refine(hh _ (BW.alloc BW.size _)).mono ?_;clear hh;rintro rr w3 ⟨rfl,hN⟩;have mm:ax (au wr wr w3):=pA hN;clear hN);go_roundg (n-(k+1))
    case measure=>omega
    case rel=>exact⟨k+1,r,by omega,by omega,by go_num,by omega,ST.below mm.out,Below.bK BW.out mm.out,HE.symm⟩
   | false=>
    have HE:ax (kS l (t.take (k+1))=r++[y]):=by show _=_;rw[uY.out];simp
    go_wp2_with (first
     | (go_at_call 99;refine(hh _ (BW.alloc BW.size _)).mono ?_;clear hh;rintro rr w3 ⟨rfl,hN⟩;obtain⟨⟨d0,d1,d2,d3⟩,_⟩:=iv (by simp) hN;have Sv:=hN.size;simp at Sv;have mm:ax (au wr wr w3):=pA hN;clear hN;have Ck:=ST.below mm.out)
     | (at_builtin;refine gS w3 y rfl _ _ rfl w _ r rfl Ck (by omega) (by omega) _ (by simp) rfl ?_;clear Ck;intro v4 w4 uW eO F1 Qz;have Kj:ax (Rows w4 w v4 (r++[y])):=uW;have kT:ax (au w w w4):=(Below.bK BW.out mm.out).trans eO;clear uW eO F1))
    go_roundg (n-(k+1))
    case measure=>omega
    case rel=>exact⟨k+1,r++[y],by omega,by omega,by go_num,by simp;omega,Kj.out,kT.out,HE.symm⟩
  ·have eN:¬ (k:aF)<(n:aF):=by omega
   have HE:ax (kS l t=r):=by show _=_;rw[NM.out,cz (by have:=HN.out;omega)]
   clear A0 NM oP;go_wp2;go_loopg [8,45] nl (fun gg v i wr2=>∃ j:aE,j<=nl/\nl-j<=gg/\i=aa ag j/\ax (Rows wr2 w v (iV (kS l t) (jg (l.take j))))/\ax (au w w wr2))
   case atStart=>exact⟨0,bF _,by omega,rfl,by show Rows _ _ _ _;rw[HE.out];exact ST.out,BW.out⟩
   case round=>
    obtain⟨j,hj,oP,rfl,ST2,QE⟩:=hrel;by_cases rT:j<nl
    ·have IJ:(j:aF)<(nl:aF):=by omega
     obtain⟨y,hy⟩:∃ y,l[j]?=aO y:=⟨_,aU (by have:=WA.out;omega)⟩
     have HY:ax (l[j]?=aO y):=hy;have HM:ax (y∈l):=bw hy;rcases HLl.out with h0|⟨b,off,rfl,hb,hc⟩
     ·rw[h0]at hy;simp at hy
     obtain⟨c0,c1,c2,c3⟩:=bI.cells hc hb QE.out hy;clear hc hy;by_cases C5:y.bE=4
     ·have HE2:ax (iV (kS l t) (jg (l.take (j+1)))=iV (kS l t) (jg (l.take j))):=PS HY.out C5
      go_wp2;go_roundg (nl-(j+1))
      case measure=>omega
      case rel=>exact⟨j+1,by omega,by omega,by go_num,by show Rows _ _ _ _;rw[HE2.out];exact ST2.below ((Grown.refl _).alloc _).below,(QE.alloc QE.size _:au _ _ _)⟩
     ·have D2:∀ W v,Rows W w v (iV (kS l t) (jg (l.take j)))->ay aP 100 #[v,.agg #[ai y.bm,aa ag y.bE,ai y.text,aq aH]] W (iq (iV (kS l t) (jg (l.take (j+1)))) W):=fun W v hv=>by
       obtain⟨p',c',rfl,J4,_,_⟩:=hv.form;rw[Tp HS.out HY.out C5];refine qU _ (kX y) p' c' W J4 (Fk _ _ (fun x hx=>HF.out x (dS.1 hx).1) (fun x hx=>?_)) (Zy.out y HM.out) ?_
       ·obtain⟨z,hz,_,rfl⟩:=j7.1 hx
        exact Zy.out z (tO hz)
       ·have h1:=Jq (jg (l.take j)) (kS l t) HS.out
        have h2:=zx l j;have h3:(kS l t).length<=t.length:=ed _ _;have:=HN.out;omega
      go_wp2_with (go_at_call 100;refine(D2 _ _ (ST2.below ((Grown.refl _).alloc _).below)).mono ?_;clear D2;rintro rr w5 ⟨⟨v5,rfl,BN⟩,xS⟩;have XO:ax (Rows w5 w v5 (iV (kS l t) (jg (l.take (j+1))))):=BN.mono (QE.alloc QE.size _).size;have tE:ax (au w w w5):=Below.bK (QE.alloc QE.size _) xS;clear BN xS);go_roundg (nl-(j+1))
      case measure=>omega
      case rel=>exact⟨j+1,by omega,by omega,by go_num,XO.out,tE.out⟩
    ·have IJ:¬ (j:aF)<(nl:aF):=by omega
     have ST3:=ST2.out;rw[cz (by have:=WA.out;omega)]at ST3;have U1:ax (Rows _ w _ (iV (kS l t) (jg l))):=ST3;obtain⟨p9,c9,hv9,Um,RX,Pc,ZZ⟩:=qm rfl ST3;subst hv9;obtain⟨N,hNN⟩:=ee ((iV (kS l t) (jg l)).length)
     have HNN:ax (N=(iV (kS l t) (jg l)).length):=hNN;rw[<- hNN]at RX;rw[<- hNN];by_cases oq:80<N
     ·have RI:(80:aF)<(N:aF):=by omega
      clear Um Pc ZZ U1 hNN;go_wp2;go_ret2;exact .inl ⟨by have:=HNN.out;omega,gp.none QE.out⟩
     ·have RI:¬ (80:aF)<(N:aF):=by omega
      clear hNN;have H9:ax (bI _ p9 (iV (kS l t) (jg l))/\(p9=none->c9=0)/\∀ b off s,p9=aO ⟨b,off,s⟩->w.heap.size<=b):=⟨Um,Pc,ZZ⟩
      clear Um Pc ZZ;go_wp2;go_ret2;exact .inr ⟨by have:=HNN.out;omega,p9,c9,by rw[<- HNN.out];rfl,H9.1,by rw[<- HNN.out];exact RX,H9.2.1,QE.out,H9.2.2⟩
theorem TL(hr:du aI l):kS l t=t.filter fun e => !fM l e.p:=by unfold kS;exact List.filter_congr fun x _=>by rw[PV hr]
theorem Jv(l t:aB bP)(pl p:aC aJ)(nR cap:aE)(w:aw)(Iz:bI w pl l)(hL:bI w p t)(G7:∀ e∈l,e.bm.size<=1048576/\e.text.size<=1048576)(hF:∀ e∈t,e.bm.size<=1048576/\e.text.size<=1048576)(eK:l.length<4611686018427387904)(hn:t.length<4611686018427387904)(E6:l.length<=nR)(ir:t.length<=cap):ay aP 52 #[ah pl l.length nR,ah p t.length cap] w (gp (gH l t) (if gH l t=0 then lq l t else[]) w):=by
 have yF:U8 w pl l.length nR aI (cV aI l).1 ((cV aI l).2:aE):=fun W hB=>jh l aI pl nR W (Iz.bB hB) G7 eK E6
 have iM:U8 w p t.length cap aH (cV aH t).1 ((cV aH t).2:aE):=fun W hB=>jh t aH p cap W (hL.bB hB) hF hn ir
 by_cases h1:(cV aI l).1=0
 ·have Yk:=fO.1 h1
  rw[iD Yk]at yF;have yF:U8 w pl l.length nR aI 0 0:=yF;by_cases h2:(cV aH t).1=0
  ·have ZY:=fO.1 h2
   rw[iD ZY]at iM;have iM:U8 w p t.length cap aH 0 0:=iM;have rS:=Yk.len;have Aq:=ZY.len;have heq:iV (kS l t) (jg l)=lq l t:=by rw[TL Yk];exact Te Yk.anF ZY.anF (fun e he=>ZY.ne he)
   have hlen:(iV (kS l t) (jg l)).length=tu l t:=by rw[heq,zu Yk.anF ZY.anF]
   have hE:gH l t=if 80<tu l t then 5 else 0:=by rw[gH,aY h1,aY h2]
   refine(acK l t pl p l.length nR t.length cap w Iz hL rfl rfl rS Aq (fun e he=>(hF e he).1) (fun e he=>(G7 e he).1) ZY.anF yF iM (fun y W hy hB=>zC l y.bm pl nR W (Iz.bB hB) eK (by have:=(hF y hy).1;omega))).mono ?_;rintro r w' (⟨h3,h⟩|⟨h3,h⟩)
   ·rw[hlen]at h3
    rw[hE,aY h3,aW (by decide)];exact h
   ·rw[hlen]at h3
    rw[hE,aW h3,aY rfl,<- heq];exact h
  ·have hE:gH l t=(cV aH t).1:=by rw[gH,aY h1,aW h2]
   rw[hE,aW h2];exact acJ pl p l.length nR t.length cap w yF _ _ h2 iM
 ·have hE:gH l t=(cV aI l).1:=by rw[gH,aW h1]
  rw[hE,aW h1];exact acI pl p l.length nR t.length cap w _ _ h1 yF
theorem Oy{ls:aB Lay}{j:aE}{x:Lay}(hj:j=ls.length-1-k)(hk:k<ls.length)(hx:ls[j]?=aO x):ls.drop (ls.length-(k+1))=x::ls.drop (ls.length-k):=by
 obtain⟨h1,h2⟩:=aQ.1 hx;have e1:ls.length-(k+1)=j:=by omega
 have e2:ls.length-k=j+1:=by omega
 rw[e1,e2,cP h1,h2]
theorem Jz(h:du aH t):∀ e∈t,e.bm.size<=1048576/\e.text.size<=1048576:=fun e he=>by
 have hw:=h.each e he;have h1:=fG (dX hw);have h2:e.text.size<=100:=by
  unfold dv at hw;split at hw
  ·cases hw
  ·split at hw
   ·cases hw
   ·split at hw
    ·cases hw
    ·omega
 omega
theorem TD(n:aE)(h5:5<n)(p:aC aJ)(cap:aE)(w:aw):ay aP 25 #[ah p n cap] w (gp 5 [] w):=by
 have h5z:(5:aF)<(n:aF):=by omega
 go_enter func25,ntmps25;go_wp2;go_ret2;exact gp.none (aR _ _)
theorem We(ls:aB Lay)(p:aC aJ)(cap:aE)(w:aw)(hT:gj w p ls)(zd:∀ x∈ls,jP w x)(Am:∀ x∈ls,∀ e∈x.es,e.bm.size<=1048576/\e.text.size<=1048576)(h5:ls.length<=5):ay aP 25 #[ah p ls.length cap] w (gp (bG (ls.map (·.es))).1 (bG (ls.map (·.es))).2 w):=by
 have HT:ax (gj w p ls):=hT;have UZ:ax (∀ x∈ls,jP w x):=zd;have HSM:ax (∀ x∈ls,∀ e∈x.es,e.bm.size<=1048576/\e.text.size<=1048576):=Am;clear hT zd Am;obtain⟨n,eK⟩:=ee ls.length
 have HN:ax (n=ls.length):=eK;rw[<- eK]at h5 ⊢;clear eK;have h5z:¬ (5:aF)<(n:aF):=by omega
 go_enter func25,ntmps25;go_wp2;go_loopg [4,13] n (fun gg v i wr=>∃ (k:aE) (pT:aC aJ) (lT cT:aE) (R:aB bP),k<=n/\n-k<=gg/\i=aa ag k/\v=ah pT lT cT/\ax (lT=R.length)/\lT<=cT/\ax (bG ((ls.drop (ls.length-k)).map (·.es))=(0,R))/\ax (bI wr pT R/\(pT=none->cT=0)/\∀ b off s,pT=aO ⟨b,off,s⟩->w.heap.size<=b)/\ax (au w w wr))
 case atStart=>exact⟨0,none,0,0,[],bF _,by omega,rfl,rfl,rfl,aV _,by show _=_;simp[bG],⟨bI.nil _ _,fun _=>rfl,nofun⟩,aR _ _⟩
 case round=>
  obtain⟨k,pT,lT,cT,R,hk,oP,rfl,rfl,HLT,Z0,ME,LI,BW⟩:=hrel;by_cases gm:k<n
  ·have eN:(k:aF)<(n:aF):=by omega
   obtain⟨j,hj⟩:=ee (n-1-k)
   obtain⟨x,hx⟩:∃ x,ls[j]?=aO x:=⟨_,aU (by have:=HN.out;omega)⟩
   have O6:(n:aF)-1-(k:aF)=(j:aF):=by omega
   have hjn:j<n:=by omega
   have akT:(j:aF)<(n:aF):=by omega
   have hj0:(0:aF)<=(j:aF):=by omega
   have qM:IntKind.i64.wrap ((n:aF)-1)=(n:aF)-1:=by simp[IntKind.wrap,IntKind.bits,IntKind.signed];omega
   have xw:IntKind.i64.wrap (j:aF)=(j:aF):=by simp[IntKind.wrap,IntKind.bits,IntKind.signed];omega
   have HX:ax (ls[j]?=aO x):=hx;have hxm:=bw hx;have HD:ax (ls.drop (ls.length-(k+1))=x::ls.drop (ls.length-k)):=Oy (by have:=HN.out;omega) (by have:=HN.out;omega) hx;clear hj;rcases HT.out with h0|⟨b,off,rfl,hb,hc⟩
   ·rw[h0]at hx;simp at hx
   have c0:=(BW.cell (p:=⟨b,off+j,none⟩) hb).trans (hc j x hx);clear hc hx;have hr:du aH R:=by have:=lQ (ls:=(ls.drop (ls.length-k)).map (·.es)) (by rw[ME.out]);rw[ME.out]at this;exact this
   have UH:=(UZ.out x hxm).bB BW.out;have Eo:=Jv x.es R x.ad pT x.cap cT _ UH.anO LI.1 (HSM.out x hxm) (Jz hr) UH.small (by have:=hr.len;omega) UH.cap (by have:=HLT.out;omega);have HM:ax (bG ((ls.drop (ls.length-(k+1))).map (·.es))=(gH x.es R,if gH x.es R=0 then lq x.es R else[])):=by show _=_;rw[HD.out,iP,rj (by rw[ME.out]),ME.out]
   rw[<- HLT.out]at Eo;generalize gH x.es R=er at Eo HM;obtain⟨xa,xc,xe⟩:=x;obtain⟨xn,UG⟩:=ee xe.length
   simp only at Eo c0;rw[<- UG]at Eo c0;clear UG UH hr;by_cases ni:er=0
   ·subst ni
    rw[aY rfl]at Eo HM;generalize lq _ R=R2 at Eo HM;go_wp2_with (go_at_call 52;refine Eo.mono ?_;clear Eo;rintro rr w2 ⟨p2,c2,rfl,Uk,F9,VH,hN,uX⟩;have H2:ax (bI w2 p2 R2/\(p2=none->c2=0)/\∀ b off s,p2=aO ⟨b,off,s⟩->w.heap.size<=b):=⟨Uk,VH,fun b off s e=>bc BW.size (uX b off s e)⟩;have nN:ax (au w w w2):=Below.bK BW.out hN;clear Uk VH hN uX);go_roundg (n-(k+1))
    case measure=>omega
    case rel=>exact⟨k+1,p2,R2.length,c2,R2,by omega,by omega,by go_num,rfl,rfl,F9,HM.out,H2.out,nN.out⟩
   ·rw[aW ni]at Eo HM
    have XA:ax (bG (ls.map (·.es))=(er,[])):=by
     show _=_;have e1:ls.map (·.es)=(ls.take (ls.length-(k+1))).map (·.es)++(ls.drop (ls.length-(k+1))).map (·.es):=by rw[<- fk,iK]
     rw[e1,yh (by rw[HM.out];exact ni),HM.out]
    go_wp2_with (go_at_call 52;refine Eo.mono ?_;clear Eo;rintro rr w2 ⟨p2,c2,rfl,Uk,F9,VH,hN,_⟩;have nN:ax (au w w w2):=Below.bK BW.out hN;clear Uk VH hN);go_ret2;rw[XA.out];exact gp.none nN.out
  ·have eN:¬ (k:aF)<(n:aF):=by omega
   have XA:ax (bG (ls.map (·.es))=(0,R)):=by show _=_;have:=ME.out;rw[show ls.length-k=0 by have:=HN.out;omega,List.drop_zero]at this;exact this
   go_wp2;go_ret2;rw[XA.out];exact⟨pT,cT,by rw[<- HLT.out];rfl,LI.1,by rw[<- HLT.out];exact Z0,LI.2.1,BW.out,LI.2.2⟩
theorem qQ(ls:aB Lay)(p:aC aJ)(cap:aE)(w:aw)(hT:gj w p ls)(zd:∀ x∈ls,jP w x)(Am:∀ x∈ls,∀ e∈x.es,e.bm.size<=1048576/\e.text.size<=1048576):ay aP 25 #[ah p ls.length cap] w (gp (jO (ls.map (·.es))).1 (jO (ls.map (·.es))).2 w):=by
 unfold jO;rw[bQ];by_cases h5:5<ls.length
 ·rw[aY h5]
  exact TD ls.length h5 p cap w
 ·rw[aW h5]
  exact We ls p cap w hT zd Am (by omega)
theorem Ml(hs:b7 l)(hne:∀ e∈l,e.p≠[]):∀ (n:aE) (q:aB aD),q.length<=n->(qG l q=aI↔q≠[]/\∃ e∈l,(e.p=q\/anG q e.p=aI)/\(!(e.bE == 2) || e.opq)=aI):=by
 intro n;induction n with
 | zero =>intro q hq;have:q=[]:=bX (by omega);subst this;rw[rp];simp
 | succ n ih=>
  intro q hq;by_cases h:q=[]
  ·subst h;rw[rp];simp
  ·rw[uw h,gZ,ih (bU q) (by have:=eY h;omega)]
   constructor
   ·rintro(h1|⟨h1,e,he,h2,h3⟩)
    ·refine⟨h,?_⟩
     unfold Bz at h1;cases hg:bW l q with
     | none=>rw[hg]at h1;cases h1
     | some e =>rw[hg]at h1;obtain⟨hm,hp⟩:=dK h hg;exact⟨e,hm,.inl hp,h1⟩
    ·refine⟨h,e,he,.inr ((mS h (hne _ he)).2 ⟨h1,?_⟩),h3⟩
     rcases h2 with h2|h2
     ·exact .inl h2.symm
     ·exact .inr h2
   ·rintro⟨_,e,he,h2,h3⟩
    rcases h2 with h2|h2
    ·left
     have:=kW hs he (hne _ he);rw[h2]at this;unfold Bz;rw[this];exact h3
    ·right
     obtain⟨h1,h4⟩:=(mS h (hne _ he)).1 h2;refine⟨h1,e,he,?_,h3⟩;rcases h4 with h4|h4
     ·exact .inl h4.symm
     ·exact .inr h4
theorem Mi(hs:b7 l)(hne:∀ e∈l,e.p≠[])(q:aB aD):jr l q=fM l q:=by
 rw[dN];unfold jr fM;rw[gZ,dy,Ml hs hne _ _ (aV _)];by_cases h:q=[]
 ·subst h
  have h0:bU ([]:aB aD)=[]:=by have:=nD ([]:aB aD);exact bX (by simpa using this)
  rw[h0,iE];constructor
  ·rintro(h1|⟨h1,_⟩)
   ·simp[tT]at h1
   ·exact aG rfl h1
  ·rintro⟨e,he,h1⟩
   unfold fL at h1;rw[tC (hne _ he)]at h1;simp[hne _ he]at h1
 ·constructor
  ·rintro(h1|⟨h1,e,he,h2,h3⟩)
   ·cases hg:bW l q with
    | none=>rw[hg]at h1;cases h1
    | some e =>rw[hg]at h1;obtain⟨hm,hp⟩:=dK h hg;exact⟨e,hm,by unfold fL;rw[hp];simp at h1 ⊢;exact .inl h1⟩
   ·refine⟨e,he,?_⟩
    unfold fL;rw[(mS h (hne _ he)).2 ⟨h1,by rcases h2 with h2|h2;exact .inl h2.symm;exact .inr h2⟩];simp at h3 ⊢;exact .inr h3
  ·rintro⟨e,he,h1⟩
   unfold fL at h1;rcases gZ _ _▸h1 with h1|h1
   ·left
    simp at h1;have:=kW hs he (hne _ he);rw[h1.1]at this;rw[this];simpa using h1.2
   ·right
    rw[fh]at h1;obtain⟨h2,h4⟩:=(mS h (hne _ he)).1 h1.1;refine⟨h2,e,he,?_,h1.2⟩;rcases h4 with h4|h4
    ·exact .inl h4.symm
    ·exact .inr h4
structure SM (own:aB bP):Prop where
 anF:b7 own
 each:∀ x∈own,x.p≠[]/\x.bm.size<=1048576
theorem SM.small(h:SM own):∀ x∈own,x.bm.size<=1048576:=fun x hx=>(h.each x hx).2
theorem SM.put(h:SM own)(h1:e.p≠[])(h2:e.bm.size<=1048576):SM (kM own e):=
 ⟨iw h.anF e,fun x hx=>by
  rcases jo.1 hx with rfl|⟨hx,_⟩
  ·exact⟨h1,h2⟩
  ·exact h.each x hx⟩
theorem RC(own:aB bP)(e:bP):(nG own e).bm=e.bm:=by unfold nG;split<;>rfl
theorem SM.stand(h:SM own)(h1:e.p≠[])(h2:e.bm.size<=1048576):SM (iW own e):=
 h.put (by rw[RA];exact h1) (by rw[RC];exact h2)
theorem Rh(h:¬ jG own (bU e.p)=aI):bU e.p≠[]:=fun h0=>h (by rw[h0];exact kL own)
theorem Dk(q:aB aD)(k:aF):(pD (fU q) k).bm=fU q:=rfl
theorem CF(q:aB aD):(fU q).size=q.length:=by simp[fU,ByteArray.size]
theorem vW(e:bP):e.bm.size=e.p.length:=rfl
theorem SM.have:∀ (n:aE) {own:aB bP} {e:bP},e.p.length<=n->SM own->e.p≠[]->e.bm.size<=1048576->SM (cZ own e):=by
 intro n;induction n with
 | zero=>intro own e hn _ hne _;exact aG (bX (by omega)) hne
 | succ n ih=>
  intro own e hn hs hne h2;by_cases hd:jG own (bU e.p)=aI
  ·rw[pM hd];exact hs.stand hne h2
  ·rw[rC hd]
   have Ep:=eY hne;refine SM.stand (ih (by rw[mD];omega) hs (by rw[mD];exact Rh hd) (by rw[Dk,CF];have:=vW e;omega)) hne h2
theorem SM.cut(h:SM own)(q:aB aD):SM (mH own q):=
 ⟨dY _ h.anF,fun x hx=>h.each x (nL.1 hx).1⟩
theorem SM.drop{B:aB bP}{p:aA}(h:SM own)(hp:p.data.toList≠[])(hs:p.size<=1048576):SM (ec own B p):=by
 unfold ec;split
 ·exact SM.have _ (aV _) (h.cut _) (by rw[A8];exact hp) hs
 ·exact h.cut _
theorem Wb(own:aB bP)(q:aB aD):gP own q=mH own q:=by unfold gP mH rG;congr 1;funext x;cases anG x.p q<;>cases decide (x.p=q)<;>rfl
theorem tB{b:Bool}(h:du b t):SM t:=⟨h.anF,fun x hx=>⟨h.ne hx,by
 have h1:=dX (h.each x hx);have h2:x.p.length<=80:=by unfold anI at h1;simp at h1;exact h1.1
 have:=vW x;omega⟩⟩
theorem tD(h:dv e aH=0):e.opq=aH:=by
 unfold dv at h;cases ho:e.opq with
 | false=>rfl
 | true=>simp[ho]at h;repeat (split at h<;>try omega)
theorem IC(h:b7 own):(cZ own e).length<=own.length+e.bm.size+1:=by have:=(qe e.p.length (aV _) h (e:=e)).2;have:=vW e;omega
