import Derived.Test.YtjnkfelecopbjaaGreatDoorYA7
import Derived.Test.YtjnkfelecopbjaaGreatDoorShelfS
open Go.Proofs.Tryz
open Go.Value renaming int->aa,slice->ah,string->ai,pointer->aj,bool->aq,tuple->aL
open Go.IntKind renaming i64->ag
open Go.RowKit renaming Below->au
open Go renaming World->aw,Aside->ax,Calls->ay,Value->az,Addr->aJ
open _root_ renaming ByteArray->aA,List->aB,Option->aC,UInt8->aD,Nat->aE,Int->aF,absurd->aG
open Bool renaming false->aH,true->aI
open Go.Ending renaming returned->aK
open Go.Obj renaming cells->aM
open Option renaming none->aN,some->aO
open Go.Proofs.Tryz renaming prog->aP
set_option linter.all false
set_option maxHeartbeats 4000000
set_option maxRecDepth 100000
namespace Go.Proofs.YtjnkfelecopbjaaGreatDoor
open Go.RowKit PM Go.Sort
variable{B c h:aE}{W X w:aw}{a x:aA}{bs:aB aA}{p:aC aJ}{bA:aB bP}
def jy(w:aw)(p:aC aJ)(bs:aB aA):Prop:=bs=[]\/∃ b off,p=aO ⟨b,off,aN⟩/\b<w.heap.size/\∀ j x,bs[j]?=aO x->w.cell? ⟨b,off+j,aN⟩=aO (ai x)
theorem jy.bB(h:jy w p bs)(hB:au w w W):jy W p bs:=by
 rcases h with h|⟨b,off,hp,hb,hc⟩
 ·exact .inl h
 ·exact .inr ⟨b,off,hp,aZ hb hB.size,fun j x hx=>(hB.cell (p:=⟨b,off+j,aN⟩) hb).trans (hc j x hx)⟩
theorem jy.OO(h:jy w p bs)(hG:w.grownBy W (aO B))(hne:bs≠[]->∀ b off s,p=aO ⟨b,off,s⟩->b≠B):jy W p bs:=by
 by_cases h0:bs=[]
 ·exact .inl h0
 ·rcases h with h|⟨b,off,hp,hb,hc⟩
  ·exact aG h h0
  ·exact .inr ⟨b,off,hp,aZ hb hG.size,fun j x hx=>(lZ hG (a:=⟨b,off+j,aN⟩) hb (hne h0 b off aN hp)).trans (hc j x hx)⟩
theorem jE.yZ{aS:aE}{v:az}(h:jE w aS v bs):∃ p c,v=ah p bs.length c/\jy w p bs/\bs.length<=c/\(p=aN->c=0)/\∀ b off s,p=aO ⟨b,off,s⟩->aS<=b:=by
 obtain⟨h1,⟨rfl,h2⟩|⟨g,cap,eI,rfl,hg,hh,C6,hm,hs,ht⟩⟩:=h
 ·have:bs=[]:=bX h2
  subst this;exact⟨aN,0,rfl,.inl rfl,aV _,fun _=>rfl,nofun⟩
 ·refine⟨_,cap,rfl,.inr ⟨g,0,rfl,(aX.1 hh).1,fun j x hx=>?_⟩,C6,nofun,fun b off s e=>by cases e;exact hg⟩
  have hj:=(aQ.1 hx).1;have hc:eI[j]?=aO (ai x):=by
   have h3:(bs.map Value.string)[j]?=aO (ai x):=by rw[cD,hx];rfl
   rw[<- ht,dm]at h3;split at h3
   ·rw[<- gJ];exact h3
   ·cases h3
  simp[World.cell?,hh,hc]
theorem r9{ops:Array Oper}{rest:aB Oper}{o:Oper}{a:Act}{Q:Exit->Act->aw->Prop}(X:aw)(ly:o.guard=aN)(s x:Operand)(ho:o.op=.call { callee:=.builtin .append,args:=#[s,x],argTypes:=#[36,36] })(aS:aE)(v:az)(l:aB aA)(hs:a.eval s=v)(jF:jE X aS v l)(eD:aS<=X)(p:aC aJ)(n c:aE)(m:aB aA)(hx:a.eval x=ah p n c)(hn:n=m.length)(hL:jy X p m)(iR:p=aN->c=0)(hlen:(l.length+m.length)*16<=140737488355328)(h:∀ v' w',jE w' aS v' (l++m)->au aS X w'->wpList aP ops Q rest (a.put o.dst v') w'):wpList aP ops Q (o::rest) a X:=by
 obtain⟨i0,hi,ou,mL,mh⟩:=E7;subst hn;cases p with
 | none=>
  obtain rfl:c=0:=iR rfl;have hm:m=[]:=by
   rcases hL with h|⟨b,off,he,_⟩
   ·exact h
   ·cases he
  subst hm;refine wpList_append_own_none ly s x 36 ho aS 9 i0 1 underlying36 hi v _ _ hs jF hx ?_;exact h v X (by simpa using jF) (aR _ _)
 | some ad=>
  refine dP X ly s x 36 ho aS 9 i0 _ 1 16 underlying36 hi ou mL mh rfl (by decide) _ _ _ hs jF ad m.length c (m.map Value.string) hx (by simp) (fun j u hu=>?_) (fun u hu=>by obtain⟨y,_,rfl⟩:=fT.1 hu;rfl) (by unfold maxLen;omega) (by omega) eD ?_
  ·rw[cD]at hu
   obtain⟨y,hy,rfl⟩:=dM.1 hu;rcases hL with h0|⟨b,off,he,_,hc⟩
   ·rw[h0]at hy;simp at hy
   ·cases he
    rw[dG];exact hc j y hy
  ·intro v' w' gG gN _
   refine h v' w' (by simpa[jE]using gG) ((aR aS X).grown gN eD (fun j hj=>(gQ jF j hj).1))
structure kJ (W:aw) (B:aE) (a:aA) (p:aC aJ) (bs:aB aA) (c h:aE):Prop where
 c0:W.cell? B=aO (ai a)
 c1:W.cell? ⟨B,1,aN⟩=aO (ah p bs.length c)
 c2:W.cell? ⟨B,2,aN⟩=aO (aa ag h)
 f0:W.frozen? B=aH
 f1:W.frozen? ⟨B,1,aN⟩=aH
 f2:W.frozen? ⟨B,2,aN⟩=aH
 anO:jy W p bs
 far:bs≠[]->∀ b off s,p=aO ⟨b,off,s⟩->b≠B
 cap:bs.length<=c
 nil:p=aN->c=0
theorem kJ.lt(k:kJ W B a p bs c h):B<W.heap.size:=bg k.c0
theorem kJ.bB{W':aw}(k:kJ W B a p bs c h)(hB:au W W W'):kJ W' B a p bs c h:=
 ⟨(hB.cell (p:=B) k.lt).trans k.c0,(hB.cell (p:=⟨B,1,aN⟩) k.lt).trans k.c1,(hB.cell (p:=⟨B,2,aN⟩) k.lt).trans k.c2,(hB.frozen (p:=B) k.lt).trans k.f0,(hB.frozen (p:=⟨B,1,aN⟩) k.lt).trans k.f1,(hB.frozen (p:=⟨B,2,aN⟩) k.lt).trans k.f2,k.anO.bB hB,k.far,k.cap,k.nil⟩
theorem ua{a p:aJ}{v:az}:(W.setCell a v).frozen? p=W.frozen? p:=by first|exact jW .. | simp
theorem KN(W:aw)(B i:aE)(v:az):W.grownBy (W.setCell ⟨B,i,aN⟩ v) (aO B):=jN (k9 W _) i v
theorem kJ.Wi(k:kJ W B a p bs c h){h':aE}{v:aF}(hv:v=h'):kJ (W.setCell ⟨B,2,aN⟩ (aa ag v)) B a p bs c h':=by
 subst hv;have ne:∀ j:aE,j≠2->(⟨B,2,aN⟩:aJ)≠⟨B,j,aN⟩:=fun j hj e=>hj (congrArg Addr.off e).symm
 exact⟨by rw[cN (h:=ne 0 (by decide))];exact k.c0,by rw[cN (h:=ne 1 (by decide))];exact k.c1,dH _ _ _ (by rw[k.c2];rfl),by rw[ua];exact k.f0,by rw[ua];exact k.f1,by rw[ua];exact k.f2,k.anO.OO (KN W B 2 _) k.far,k.far,k.cap,k.nil⟩
theorem kJ.Zr(k:kJ W B a p bs c h)(a':aA):kJ (W.setCell B (ai a')) B a' p bs c h:=by
 have ne:∀ j:aE,j≠0->(⟨B,0,aN⟩:aJ)≠⟨B,j,aN⟩:=fun j hj e=>hj (congrArg Addr.off e).symm
 exact⟨dH _ _ _ (by rw[k.c0];rfl),by rw[cN (h:=ne 1 (by decide))];exact k.c1,by rw[cN (h:=ne 2 (by decide))];exact k.c2,by rw[ua];exact k.f0,by rw[ua];exact k.f1,by rw[ua];exact k.f2,k.anO.OO (KN W B 0 _) k.far,k.far,k.cap,k.nil⟩
theorem kJ.Wj(k:kJ W B a p bs c h){p':aC aJ}{bs':aB aA}{n' c':aE}(hn:n'=bs'.length)(hl:jy W p' bs')(hf:bs'≠[]->∀ b off s,p'=aO ⟨b,off,s⟩->b≠B)(hc:bs'.length<=c')(iR:p'=aN->c'=0):kJ (W.setCell ⟨B,1,aN⟩ (ah p' n' c')) B a p' bs' c' h:=by
 subst hn;have ne:∀ j:aE,j≠1->(⟨B,1,aN⟩:aJ)≠⟨B,j,aN⟩:=fun j hj e=>hj (congrArg Addr.off e).symm
 exact⟨by rw[cN (h:=ne 0 (by decide))];exact k.c0,dH _ _ _ (by rw[k.c1];rfl),by rw[cN (h:=ne 2 (by decide))];exact k.c2,by rw[ua];exact k.f0,by rw[ua];exact k.f1,by rw[ua];exact k.f2,hl.OO (KN W B 1 _) hf,hf,hc,iR⟩
def wC(B:aE)(err:aF)(a:aB aD)(ns:aB (aB aD))(h:aE)(W:aw)(r:Ending)(W':aw):Prop:=
 ∃ a' p bs c,r=aK (aa ag err)/\kJ W' B a' p bs c h/\a'.data.toList=a/\bs.map (·.data.toList)=ns/\W.grownBy W' (aO B)
theorem ud{g:aE}(h:au w w W):w.grownBy W (aO g):=jB (k9 w _) h
theorem abV(W:aw)(B:aE)(a:aA)(p:aC aJ)(bs:aB aA)(c h:aE)(t:aA)(k:kJ W B a p bs c h)(hh:8<h+1)(h8:h<=8):ay aP 163 #[aj (aO B),ai t] W (wC B 12 a (bs.map (·.data.toList)) (h+1) W):=by
 have K2:ax (kJ (W.setCell ⟨B,2,aN⟩ (aa ag ((h:aF)+1))) B a p bs c (h+1)):=k.Wi (by omega);obtain⟨c0,c1,c2,f0,f1,f2,_⟩:=k;have hz:(8:aF)<(h:aF)+1:=by omega
 go_enter func163,ntmps163;go_wp2;go_ret;exact⟨a,p,bs,c,rfl,K2.out,rfl,rfl,KN W B 2 _⟩
theorem zy(l:aB aD):Lib.hasPrefix l (⟨#[47]⟩:aA).data.toList=sw l:=by
 unfold sw Lib.hasPrefix;cases l with
 | nil=>rfl
 | cons x r=>
  show([47]:aB aD).isPrefixOf (x::r)=(aO x == aO 47)
  simp only[List.isPrefixOf,GX];rw[dN];simp;exact eq_comm
abbrev PsC(w:aw)(t:aA)(l:aB (aB aD))(n:aF):Prop:=∀ W,w.heap.size<=W.heap.size->W.cell? ⟨0,0,aN⟩=w.cell? ⟨0,0,aN⟩->ay aP 117 #[ai t] W (eW W l n)
theorem jQ{w':aw}{l:aB (aB aD)}{n:aF}{e:Ending}(h:eW w l n e w'):∃ p k c bs,e=aK (aL #[ah p k c,aa ag n])/\ax (k=bs.length/\jE w' w (ah p k c) bs/\bs.map (·.data.toList)=l)/\ax (au w w w'):=by obtain⟨⟨v,bs,rfl,hS,hl⟩,hB⟩:=h;obtain⟨p,c,rfl,_⟩:=hS.yZ;exact⟨p,bs.length,c,bs,rfl,⟨rfl,hS,hl⟩,hB⟩
theorem abW(W:aw)(B:aE)(a:aA)(p:aC aJ)(bs:aB aA)(c h:aE)(t:aA)(k:kJ W B a p bs c h)(hh:¬ 8<h+1)(ph:B≠0)(pe:aF)(BU:¬ pe=0)(l:aB (aB aD))(rf:PsC W t l pe):ay aP 163 #[aj (aO B),ai t] W (wC B pe a (bs.map (·.data.toList)) (h+1) W):=by
 have K2:ax (kJ (W.setCell ⟨B,2,aN⟩ (aa ag ((h:aF)+1))) B a p bs c (h+1)):=k.Wi (by omega);have IQ:=rf (W.setCell ⟨B,2,aN⟩ (aa ag ((h:aF)+1))) (by simp[World.setCell]) (cN (h:=fun e=>ph (congrArg Addr.block e)) ..);clear rf;obtain⟨c0,c1,c2,f0,f1,f2,_⟩:=k;have hz:¬ (8:aF)<(h:aF)+1:=by omega
 go_enter func163,ntmps163;go_wp2_with (go_at_call 117;refine IQ.mono ?_;clear IQ;intro e w1 hE;obtain⟨p1,k1,c1',yP,rfl,tF,lV⟩:=jQ hE;clear hE);go_ret;exact⟨a,p,bs,c,rfl,K2.bB lV.out,rfl,rfl,jB (KN W B 2 _) lV.out⟩
theorem abX(W:aw)(B:aE)(a:aA)(p:aC aJ)(bs:aB aA)(c h:aE)(t:aA)(k:kJ W B a p bs c h)(hh:¬ 8<h+1)(ph:B≠0)(l:aB (aB aD))(rf:PsC W t l 0)(YN:l.length<=100)(xV:bs.length<=1000)(xv:sw t.data.toList=aI):ay aP 163 #[aj (aO B),ai t] W (wC B 0 [] (l++bs.map (·.data.toList)) (h+1) W):=by
 have K2:ax (kJ (W.setCell ⟨B,2,aN⟩ (aa ag ((h:aF)+1))) B a p bs c (h+1)):=k.Wi (by omega);have IQ:=rf (W.setCell ⟨B,2,aN⟩ (aa ag ((h:aF)+1))) (by simp[World.setCell]) (cN (h:=fun e=>ph (congrArg Addr.block e)) ..);have hpf:=fun X=>Tryz.strings_HasPrefix t ⟨#[47]⟩ X
 have BU:Lib.hasPrefix t (⟨#[47]⟩:aA).data.toList=aI:=by rw[<- xv];exact zy _
 rw[BU]at hpf;have HL:ax (l.length<=100/\bs.length<=1000):=⟨YN,xV⟩
 obtain⟨n0,IL⟩:=ee bs.length
 have Uc:ax (n0=bs.length):=IL;clear rf BU xv YN xV;obtain⟨c0,c1,c2,f0,f1,f2,_⟩:=k;rw[<- IL]at c1;clear IL;have hz:¬ (8:aF)<(h:aF)+1:=by omega
 go_enter func163,ntmps163;go_wp2_with (first
  | (go_at_call 117;refine IQ.mono ?_;clear IQ;intro e w1 hE;obtain⟨p1,k1,JY,yP,rfl,tF,lV⟩:=jQ hE;clear hE;have Cw:ax (kJ w1 B a p bs c (h+1)):=K2.bB lV.out;obtain⟨d0,d1,d2,g0,g1,g2,_⟩:=Cw.out;rw[<- Uc.out]at d1)
  | (at_builtin;have hlen:(yP.length+bs.length)*16<=140737488355328:=(by have h1:=HL.1;have h2:=HL.2;have h3:=congrArg List.length tF.2.2;simp at h3;omega);refine r9 _ rfl _ _ rfl _ (ah p1 k1 JY) yP rfl tF.2.1 lV.size p n0 c bs rfl Uc.out Cw.anO Cw.nil hlen ?_;clear hlen;intro v3 w3 CZ eG;have mm:ax (au _ _ w3):=lV.trans eG;obtain⟨p3,c3,rfl,pK,zP,DZ,R5⟩:=CZ.yZ;obtain⟨k3,Cn⟩:=ee ((yP++bs).length);rw[<- Cn];have HK3:ax (kJ w3 B a p bs c (h+1)):=K2.bB mm.out;have HK4:ax (kJ (w3.setCell ⟨B,1,aN⟩ (ah p3 k3 c3)) B a p3 (yP++bs) c3 (h+1)):=HK3.Wj Cn pK (fun _ b off s e=>by have:=R5 b off s e;have:=K2.lt;omega) zP DZ;clear CZ eG pK R5 zP DZ Cn d0 d1 d2 g0 g1 g2;obtain⟨d0,d1,d2,g0,g1,g2,_⟩:=HK3.out;rw[<- Uc.out]at d1)
  | (go_at_call 212;refine(hpf _).mono ?_;rintro e wx ⟨rfl,Hh⟩;subst wx;obtain⟨b0,b1,b2,y0,y1,y2,_⟩:=HK4.out))
 go_ret;exact⟨_,p3,yP++bs,c3,rfl,HK4.Zr _,rfl,by rw[fk,tF.2.2],jN (jN (jB (KN W B 2 _) mm.out) _ _) _ _⟩
theorem abY(W:aw)(B:aE)(a:aA)(p:aC aJ)(bs:aB aA)(c h:aE)(t:aA)(k:kJ W B a p bs c h)(hh:¬ 8<h+1)(ph:B≠0)(l:aB (aB aD))(rf:PsC W t l 0)(YN:l.length<=100)(xV:bs.length<=1000)(xv:sw t.data.toList=aH):ay aP 163 #[aj (aO B),ai t] W (wC B 0 a (l++bs.map (·.data.toList)) (h+1) W):=by
 have K2:ax (kJ (W.setCell ⟨B,2,aN⟩ (aa ag ((h:aF)+1))) B a p bs c (h+1)):=k.Wi (by omega);have IQ:=rf (W.setCell ⟨B,2,aN⟩ (aa ag ((h:aF)+1))) (by simp[World.setCell]) (cN (h:=fun e=>ph (congrArg Addr.block e)) ..);have hpf:=fun X=>Tryz.strings_HasPrefix t ⟨#[47]⟩ X
 have BU:Lib.hasPrefix t (⟨#[47]⟩:aA).data.toList=aH:=by rw[<- xv];exact zy _
 rw[BU]at hpf;have HL:ax (l.length<=100/\bs.length<=1000):=⟨YN,xV⟩
 obtain⟨n0,IL⟩:=ee bs.length
 have Uc:ax (n0=bs.length):=IL;clear rf BU xv YN xV;obtain⟨c0,c1,c2,f0,f1,f2,_⟩:=k;rw[<- IL]at c1;clear IL;have hz:¬ (8:aF)<(h:aF)+1:=by omega
 go_enter func163,ntmps163;go_wp2_with (first
  | (go_at_call 117;refine IQ.mono ?_;clear IQ;intro e w1 hE;obtain⟨p1,k1,JY,yP,rfl,tF,lV⟩:=jQ hE;clear hE;have Cw:ax (kJ w1 B a p bs c (h+1)):=K2.bB lV.out;obtain⟨d0,d1,d2,g0,g1,g2,_⟩:=Cw.out;rw[<- Uc.out]at d1)
  | (at_builtin;have hlen:(yP.length+bs.length)*16<=140737488355328:=(by have h1:=HL.1;have h2:=HL.2;have h3:=congrArg List.length tF.2.2;simp at h3;omega);refine r9 _ rfl _ _ rfl _ (ah p1 k1 JY) yP rfl tF.2.1 lV.size p n0 c bs rfl Uc.out Cw.anO Cw.nil hlen ?_;clear hlen;intro v3 w3 CZ eG;have mm:ax (au _ _ w3):=lV.trans eG;obtain⟨p3,c3,rfl,pK,zP,DZ,R5⟩:=CZ.yZ;obtain⟨k3,Cn⟩:=ee ((yP++bs).length);rw[<- Cn];have HK3:ax (kJ w3 B a p bs c (h+1)):=K2.bB mm.out;have HK4:ax (kJ (w3.setCell ⟨B,1,aN⟩ (ah p3 k3 c3)) B a p3 (yP++bs) c3 (h+1)):=HK3.Wj Cn pK (fun _ b off s e=>by have:=R5 b off s e;have:=K2.lt;omega) zP DZ;clear CZ eG pK R5 zP DZ Cn d0 d1 d2 g0 g1 g2;obtain⟨d0,d1,d2,g0,g1,g2,_⟩:=HK3.out;rw[<- Uc.out]at d1)
  | (go_at_call 212;refine(hpf _).mono ?_;rintro e wx ⟨rfl,Hh⟩;subst wx;obtain⟨b0,b1,b2,y0,y1,y2,_⟩:=HK4.out))
 go_ret;exact⟨_,p3,yP++bs,c3,rfl,HK4.out,rfl,by rw[fk,tF.2.2],jN (jB (KN W B 2 _) mm.out) _ _⟩
theorem VK(W:aw)(B:aE)(a:aA)(p:aC aJ)(bs:aB aA)(c h:aE)(t:aA)(m:aF)(k:kJ W B a p bs c h)(h8:h<=8)(ph:B≠0)(xV:bs.length<=1000)(ht:t.size<=100)(hm:W.cell? ⟨0,0,aN⟩=aO (aa ag m)):ay aP 163 #[aj (aO B),ai t] W (wC B (if 8<h+1 then 12 else(en t).2) (if 8<h+1 then a.data.toList else if ¬ (en t).2=0 then a.data.toList else if sw t then[]else a.data.toList) (if 8<h+1 then bs.map (·.data.toList)else if ¬ (en t).2=0 then bs.map (·.data.toList)else(en t).1++bs.map (·.data.toList)) (h+1) W):=by
 by_cases h1:8<h+1
 ·rw[aY h1,aY h1,aY h1]
  exact abV W B a p bs c h t k h1 h8
 ·rw[aW h1,aW h1,aW h1]
  have rf:PsC W t (en t).1 (en t).2:=fun X _ hX=>Fj t m X (by unfold maxLen;omega) (by rw[hX];exact hm)
  by_cases h2:(en t).2=0
  ·rw[aW (oz h2),aW (oz h2)]
   rw[h2]at rf ⊢;have:=(tz t).1;cases hs:sw t with
   | true=>rw[aY rfl];exact abX W B a p bs c h t k h1 ph _ rf (by omega) xV hs
   | false=>rw[aW (by decide)];exact abY W B a p bs c h t k h1 ph _ rf (by omega) xV hs
  ·rw[aY h2,aY h2]
   exact abW W B a p bs c h t k h1 ph _ h2 _ rf
theorem kJ.aeZ{b off:aE}{n0:aE}(k:kJ W B a (aO ⟨b,off,aN⟩) (x::bs) c h)(hn:n0=bs.length)(hc:¬ c=1):kJ (W.setCell ⟨B,1,aN⟩ (ah (aO ⟨b,off+1,aN⟩) n0 (c-1))) B a (aO ⟨b,off+1,aN⟩) bs (c-1) h:=by
 have ir:=k.cap;rw[cj]at ir;refine k.Wj hn ?_ (fun _ b' off' s e=>by cases e;exact k.far (by simp) b off aN rfl) (by omega) nofun;rcases k.anO with h0|⟨b',off',e,hb,hcs⟩
 ·cases h0
 ·cases e
  exact .inr ⟨b,off+1,rfl,hb,fun j y hy=>by rw[dh,nA 1 j];exact hcs (j+1) y (by simpa using hy)⟩
theorem kJ.aeY{b off:aE}{n0:aE}(k:kJ W B a (aO ⟨b,off,aN⟩) (x::bs) 1 h)(hn:n0=bs.length):kJ (W.setCell ⟨B,1,aN⟩ (ah (aO ⟨b,off,aN⟩) n0 0)) B a (aO ⟨b,off,aN⟩) bs 0 h:=by have ir:=k.cap;rw[cj]at ir;have:bs=[]:=bX (by omega);subst this;exact k.Wj hn (.inl rfl) (fun h=>aG rfl h) (aV _) nofun
theorem RG(bA:aB bP)(W:aw)(B:aE)(a:aA)(p:aC aJ)(x:aA)(bs:aB aA)(c h:aE)(ps:aC aJ)(sc:aE)(cH:Bool)(m:aF)(k:kJ W B a p (x::bs) c h)(hL:bI W ps bA)(hr:du aH bA)(sZ:bA=[]\/∀ b off s,ps=aO ⟨b,off,s⟩->b≠B)(hw:Ht a ((x::bs).map (·.data.toList)) h)(ph:B≠0)(hm:W.cell? ⟨0,0,aN⟩=aO (aa ag m)):ay aP 118 #[aj (aO B),ah ps bA.length sc,aq cH] W
   (wC B (qE bA cH a x (bs.map (·.data.toList)) h).1 (qE bA cH a x (bs.map (·.data.toList)) h).2.1 (qE bA cH a x (bs.map (·.data.toList)) h).2.2.1 (qE bA cH a x (bs.map (·.data.toList)) h).2.2.2 W):=by
 have E4:=hw.len;have VI:=hw.num;have hh8:=hw.YT;have hxl:x.data.toList.length<=12:=hw.each _ (by simp);have has:a.size=a.data.toList.length:=rfl;have hxs:x.size=x.data.toList.length:=rfl;rw[bQ,cj]at VI;have h81:(h+1)*81<=729:=by omega
 have C4:=lJ hr;have rE:=hr.len;have hls:=fun X (hX:au W.heap.size W X)=>I9 bA a ps sc X (hL.bB hX) C4 hr (by unfold maxLen;omega)
 have Xb:(l7 bA a).2=eL bA a.data.toList:=by unfold l7;split<;>simp[*]
 rw[Xb]at hls;have oF:=fun X=>Cf a X (by omega)
 have hjn:=fun X=>SL a x X (by omega)
 have vK:=I4 a x.data.toList;have mK:=fun X (d:aA) (hd:d.data.toList=fH a x) (hX:W.grownBy X (aO B))=>za bA d ps sc X (by
  rcases sZ,hL with⟨hf|hf,h0|⟨b,off,e,hb,hc⟩⟩
  all_goals first|exact .inl ‹_› | exact .inr ⟨b,off,e,aZ hb hX.size,fun j y hy i u hu=>(lZ hX hb (hf b off aN e)).trans (hc j y hy i u hu)⟩) C4 (by omega) (by have:=ix d;rw[hd]at this;unfold maxLen;omega) hr.anF _ _ (by rw[hd]) (by rw[hd])
 have lz:=Iw hr (fH a.data.toList x.data.toList);generalize hG:qE bA cH a.data.toList x.data.toList (bs.map (·.data.toList)) h=G;unfold qE at hG;generalize (bW bA (fH a.data.toList x.data.toList)).getD cR=z at mK lz hG;generalize (bW bA (fH a.data.toList x.data.toList)).isSome=zb at mK;generalize eL bA a.data.toList=ne at hls hG;obtain⟨ep,ek,et,eo⟩:=z;have hhp:=fun X p' c' (hk:kJ X B a p' bs c' h) (hG:W.grownBy X (aO B))=>VK X B a p' bs c' h et m hk hh8 ph (by omega) lz (by rw[lZ hG (a:=⟨0,0,aN⟩) (bg hm) (lD ph)];exact hm)
 generalize hx:(x.toList == [46,46])=dd;generalize h3:(ek == 3)=t3;generalize Hc:bs.length=n0;have HG:ax (G=if ¬ ne=0 then(ne,a.data.toList,(x::bs).map (·.data.toList),h)else if dd=aI then(0,bU a.data.toList,bs.map (·.data.toList),h)else if t3=aI/\(¬ n0=0\/cH=aI)then((if 8<h+1 then 12 else(en et).2),(if 8<h+1 then a.data.toList else if ¬ (en et).2=0 then a.data.toList else if sw et then[]else a.data.toList),(if 8<h+1 then bs.map (·.data.toList)else if ¬ (en et).2=0 then bs.map (·.data.toList)else(en et).1++bs.map (·.data.toList)),h+1)else(0,fH a x.data.toList,bs.map (·.data.toList),h)):=by
  have e1:x.data.toList=[46,46]↔dd=aI:=by rw[<- hx,bq];simp
  have e2:ek=3↔t3=aI:=by rw[<- h3];simp
  have e3:bs.map (·.data.toList)≠[]↔¬ n0=0:=by rw[<- Hc];simp
  simp only[e1,e2,e3]at hG;show G=_;rw[<- hG];split;· rfl
  split;· rfl
  split
  ·split
   ·rfl
   ·by_cases e:(en et).2=0<;>simp[*]
  ·rfl
 generalize (if 8<h+1 then(12:aF)else(en et).2)=he at hhp HG;generalize ik:bA.length=sn at hls mK ⊢;have HK:ax (kJ W B a p (x::bs) c h/\n0=bs.length):=⟨k,Hc.symm⟩
 obtain⟨c0,c1,c2,f0,f1,f2,_⟩:=k;clear hG E4 VI hh8 hxl has hxs h81 C4 rE Xb vK lz ik hL hr sZ hw hm;go_enter func118,ntmps118;go_upto_region 1 with fail
 go_cut [8]from 7 to 21 (fun s8 w=>s8=aa ag ne/\ax (au W W w))
 case first=>
  go_wp2_with (go_at_call 85;refine(hls _ (aR _ _)).mono ?_;clear hls;intro r w1 hE;obtain⟨p1,k1,JY,yP,rfl,tF,lV⟩:=jQ hE;clear hE);go_meet
  case rel=>exact⟨rfl,lV.out⟩
 obtain⟨rfl,HB⟩:=hcut;clear c0 c1 c2 f0 f1 f2 hls;cases h1:(ne != 0);rotate_left
 ·go_wp2_with fail
  go_ret;rw[HG.out,aY (by simpa using h1)];exact⟨a,p,_,c,rfl,HK.1.bB HB.out,rfl,rfl,ud HB.out⟩
 obtain rfl:ne=0:=by simpa using h1
 replace HG:=show ax _ from HG.trans (aW (by simp))
 have k:=HK.1.bB HB.out;rcases k.anO with h0|⟨b,off,rfl,ot,hcs⟩
 ·cases h0
 have hx0:wc.cell? ⟨b,off,aN⟩=aO (ai x):=hcs 0 x rfl;have hne:b≠B:=k.far (by simp) b off aN rfl;have ir:=k.cap;obtain⟨c0,c1,c2,f0,f1,f2,_⟩:=k;rw[cj,<- HK.2]at c1 ir;clear hcs h1;go_upto_region 5 with fail
 go_cut []from 31 to 38 (fun w=>∃ p' c',ax (kJ w B a p' bs c' h/\W.grownBy w (aO B)))
 case first=>
  by_cases Ef:c=1
  ·subst Ef
   obtain rfl:n0=0:=by omega
   go_wp2_with fail;go_meet
   case rel=>exact⟨_,_,(HK.1.bB HB.out).aeY HK.2,jN (ud HB.out) _ _⟩
  ·go_wp2_with fail
   go_meet
   case rel=>exact⟨_,_,(HK.1.bB HB.out).aeZ HK.2 Ef,jN (ud HB.out) _ _⟩
 obtain⟨p',c',HC⟩:=hcut;clear c0 c1 c2 f0 f1 f2 hx0 ot ir;obtain⟨c0,c1,c2,f0,f1,f2,_⟩:=HC.1;rw[<- HK.2]at c1;cases dd;rotate_left
 ·go_wp2_with (go_at_call 136;refine(oF _).mono ?_;rintro r w2 ⟨⟨d,nm,rfl,hd,xG⟩,n2,xw⟩;subst xw;have HD:ax (d.data.toList=bU a):=hd;clear hd xG)
  go_ret;rw[HG.out,aY (by trivial)];exact⟨d,_,_,_,rfl,(HC.1.bB (cG (aR _ _) _)).Zr d,HD.out,rfl,jN (jB HC.2 (cG (aR _ _) _)) _ _⟩
 replace HG:=show ax _ from HG.trans (aW (by simp))
 go_upto_region 11 with(first
  | (go_at_call 162;refine(hjn _).mono ?_;rintro r w2 ⟨⟨d,rfl,hd⟩,xw⟩;subst w2;have gI:=mK _ d hd HC.2;have HD:ax (d.data.toList=fH a x):=hd;clear hd mK)
  | (go_at_call 76;refine gI.mono ?_;clear gI;rintro r w3 ⟨rfl,pL⟩;replace pL:=Below.bK pL ((Grown.refl w3).alloc (aM #[ai ep,aa ag ek,ai et,aq eo] 88)).below;replace HC:ax _:=fB (HC.1.bB pL) (jB HC.2 pL);clear c0 c1 c2 f0 f1 f2 pL))
 have e1:(w3.alloc (aM #[ai ep,aa ag ek,ai et,aq eo] 88)).cell? ⟨w3,1,aN⟩=aO (aa ag ek):=by simp
 have e2:(w3.alloc (aM #[ai ep,aa ag ek,ai et,aq eo] 88)).cell? ⟨w3,2,aN⟩=aO (ai et):=by simp
 generalize w3.alloc _=w4 at HC e1 e2 ⊢;generalize w3.heap.size=E at e1 e2 ⊢;obtain⟨c0,c1,c2,f0,f1,f2,_⟩:=HC.1;rw[<- HK.2]at c1;go_wp2_with (go_at_call 163;refine(hhp _ _ _ HC.1 HC.2).mono ?_;clear hhp;rintro r w5 ⟨a4,p4,bs4,c4,rfl,C5,OY,Nk,hg4⟩;have HF:ax _:=fB C5 (fB OY (fB Nk (EX HC.2 hg4)));clear C5 OY Nk hg4);all_goals go_ret
 all_goals first
  | (rw[HG.out,aW (by grind)];exact⟨d,_,_,_,rfl,HC.1.Zr d,HD.out,rfl,jN HC.2 _ _⟩)
  | (rw[HG.out,aY (by grind)];exact⟨a4,p4,bs4,c4,rfl,HF.out⟩)
def jk(e:aF)(l:aB aD)(W:aw)(r:Ending)(W':aw):Prop:=∃ q:aA,r=aK (aL #[ai q,aa ag e])/\q.data.toList=l/\au W W W'
theorem Zv(W:aw)(p:aC aJ)(bs:aB aA)(k c:aE)(hk:k=bs.length)(hL:jy W p bs)(hc:bs.length<=c)(hn:p=aN->c=0):kJ (W.alloc (aM #[ai ⟨#[]⟩,ah p k c,aa ag 0] 166)) W ⟨#[]⟩ p bs c 0:=by
 subst hk;have hb:(W.alloc (aM #[ai ⟨#[]⟩,ah p bs.length c,aa ag 0] 166)).heap[W.heap.size]?=aO (aM #[ai ⟨#[]⟩,ah p bs.length c,aa ag 0] 166):=by show(W.heap.push _)[W.heap.size]?=_;simp
 refine⟨by simp,by simp,by simp,by simp,by simp,by simp,hL.bB ((Grown.refl W).alloc _).below,fun h0 b off s e=>?_,hc,hn⟩;rcases hL with h|⟨b',off',hp,ot,_⟩
 ·exact aG h h0
 ·rw[hp]at e;cases e;omega
theorem Fc(bA:aB bP)(cH:Bool)(g:aE)(a:aB aD)(h:aE):nK bA cH g a [] h=(0,a):=by cases g<;>rfl
theorem pQ(bA:aB bP)(cH:Bool)(g:aE)(a n:aB aD)(r:aB (aB aD))(h:aE):nK bA cH (g+1) a (n::r) h=if(qE bA cH a n r h).1=0 then nK bA cH g (qE bA cH a n r h).2.1 (qE bA cH a n r h).2.2.1 (qE bA cH a n r h).2.2.2 else((qE bA cH a n r h).1,[]):=rfl
structure AP (bA:aB bP) (cH:Bool) (W:aw) (B:aE) (R:aF × aB aD) (a:aA) (p:aC aJ) (bs:aB aA) (c h:aE) (X:aw):Prop where
 at':kJ X B a p bs c h
 ok:Ht a (bs.map (·.data.toList)) h
 eq:∃ g,(9-h)*100+bs.length<=g/\R=nK bA cH g a (bs.map (·.data.toList)) h
 below:au W W X
theorem Nd{Y:aw}(h:au W W X)(hG:X.grownBy Y (aO B))(hB:W<=B):au W W Y:=h.grown hG h.size (fun k hk=>by cases hk;exact hB)
theorem AP.next(hr:du aH bA){cH:Bool}{R:aF × aB aD}{Y:aw}(I:AP bA cH W B R a p (x::bs) c h X)(hB:W<=B){a':aA}{p':aC aJ}{bs':aB aA}{c':aE}(hk:kJ Y B a' p' bs' c' (qE bA cH a x (bs.map (·.data.toList)) h).2.2.2)(ha:a'.data.toList=(qE bA cH a x (bs.map (·.data.toList)) h).2.1)(hb:bs'.map (·.data.toList)=(qE bA cH a x (bs.map (·.data.toList)) h).2.2.1)(hG:X.grownBy Y (aO B))(hz:(qE bA cH a x (bs.map (·.data.toList)) h).1=0):AP bA cH W B R a' p' bs' c' (qE bA cH a x (bs.map (·.data.toList)) h).2.2.2 Y/\(9-(qE bA cH a x (bs.map (·.data.toList)) h).2.2.2)*100+bs'.length<(9-h)*100+(bs.length+1):=by
 obtain⟨o1,o2⟩:=go_ok hr (cH:=cH) I.ok hz;have hl:bs'.length=(qE bA cH a x (bs.map (·.data.toList)) h).2.2.1.length:=by rw[<- hb,bQ]
 rw[<- hl]at o2;simp only[cj,bQ]at o2;obtain⟨g,hg,hR⟩:=I.eq;rw[cj]at hg;refine⟨⟨hk,?_,?_,Nd I.below hG hB⟩,o2⟩
 ·rw[ha,hb];exact o1
 ·obtain⟨g',rfl⟩:∃ g',g=g'+1:=⟨g-1,by omega⟩
  rw[iP,pQ,aY hz]at hR;exact⟨g',by omega,by rw[ha,hb];exact hR⟩
theorem AP.bad{cH:Bool}{R:aF × aB aD}(I:AP bA cH W B R a p (x::bs) c h X)(hz:¬ (qE bA cH a x (bs.map (·.data.toList)) h).1=0):R.1=(qE bA cH a x (bs.map (·.data.toList)) h).1:=by
 obtain⟨g,hg,hR⟩:=I.eq;rw[cj]at hg;obtain⟨g',rfl⟩:∃ g',g=g'+1:=⟨g-1,by omega⟩
 rw[iP,pQ,aW hz]at hR;rw[hR]
theorem TM{ps:aC aJ}(hL:bI W ps bA)(hB:W<=B):bA=[]\/∀ b off s,ps=aO ⟨b,off,s⟩->b≠B:=by
 rcases hL with h|⟨b,off,hp,hb,_⟩
 ·exact .inl h
 ·exact .inr (fun b' off' s e=>by rw[hp]at e;cases e;omega)
theorem SR(bA:aB bP)(way:aA)(cH:Bool)(W:aw)(S:aE)(e:aF)(he:¬ e=0)(l:aB (aB aD))(rf:ay aP 117 #[ai way] W (eW W l e)):ay aP 71 #[aj (aO S),ai way,aq cH] W (jk e [] W):=by
 have O0:(e == 0)=aH:=dw.2 he;go_enter func71,ntmps71;go_wp2_with (go_at_call 117;refine rf.mono ?_;clear rf;intro e w1 hE;obtain⟨p1,k1,JY,yP,rfl,tF,lV⟩:=jQ hE;clear hE);go_loopg [9] 1 (fun gg s9 wr=>s9=aa ag e/\ax (au W W wr))
 case atStart=>exact⟨rfl,Below.bK lV.out ((Grown.refl w1).alloc _).below⟩
 case round =>obtain⟨rfl,BW⟩:=hrel;go_wp2;go_ret2;exact⟨⟨#[]⟩,rfl,rfl,BW.out⟩
def aeM(bA:aB bP)(cH:Bool)(W:aw)(B:aE)(R:aF × aB aD)(gg:aE)(s9:az)(X:aw):Prop:=
 ∃ e:aF,s9=aa ag e/\((¬ e=0/\ax (R.1=e/\au W W X))\/(e=0/\∃ (a:aA) (p:aC aJ) (bs:aB aA) (c h:aE),(9-h)*100+bs.length+1<=gg/\ax (AP bA cH W B R a p bs c h X)))
theorem VS(bA:aB bP)(way:aA)(cH:Bool)(W:aw)(S:aE)(ps:aC aJ)(sn sc:aE)(ik:sn=bA.length)(m:aF)(hS:W.cell? ⟨S,2,aN⟩=aO (ah ps sn sc))(hL:bI W ps bA)(hr:du aH bA)(hm:W.cell? ⟨0,0,aN⟩=aO (aa ag m))(l:aB (aB aD))(Sh:l.length<=81)(Se:∀ n∈l,n.length<=12)(rf:ay aP 117 #[ai way] W (eW W l 0))(R:aF × aB aD)(hR:R=nK bA cH 1100 [] l 0):ay aP 71 #[aj (aO S),ai way,aq cH] W (jk (if ¬ R.1=0 then R.1 else if 80<R.2.length then 4 else 0) (if ¬ R.1=0 then[]else if 80<R.2.length then[]else R.2) W):=by
 have HL:ax (bI W ps bA/\du aH bA/\sn=bA.length/\W.cell? ⟨0,0,aN⟩=aO (aa ag m)):=⟨hL,hr,ik,hm⟩
 have H0:ax (R=nK bA cH 1100 [] l 0/\l.length<=81/\∀ n∈l,n.length<=12):=⟨hR,Sh,Se⟩
 have aa9:=bg hS;simp only at aa9;have HS:ax (W.cell? ⟨S,2,aN⟩=aO (ah ps sn sc)):=hS;clear hL hr ik hm hR Sh Se hS;obtain⟨re,Ss⟩:∃ re,re=if ¬ R.1=0 then R.1 else if 80<R.2.length then 4 else 0:=⟨_,rfl⟩
 obtain⟨rl,Lg⟩:∃ rl,rl=if ¬ R.1=0 then[]else if 80<R.2.length then[]else R.2:=⟨_,rfl⟩
 have zL:ax ((re=if ¬ R.1=0 then R.1 else if 80<R.2.length then 4 else 0)/\(rl=if ¬ R.1=0 then[]else if 80<R.2.length then[]else R.2)):=⟨Ss,Lg⟩
 rw[<- Ss,<- Lg];clear Ss Lg;go_enter func71,ntmps71;go_wp2_with (go_at_call 117;refine rf.mono ?_;clear rf;intro e w1 hE;obtain⟨p1,k1,JY,yP,rfl,tF,lV⟩:=jQ hE;clear hE);have GZ:ax (AP bA cH W w1 R ⟨#[]⟩ p1 yP JY 0 (w1.alloc (aM #[ai ⟨#[]⟩,ah p1 k1 JY,aa ag 0] 166))):=by
  obtain⟨h1,h2,h3⟩:=tF.out;obtain⟨p',c',e,J4,Hd,Em,_⟩:=h2.yZ;injection e with e1 e2 e3
  subst e1 e3;have hlen:yP.length=l.length:=by rw[<- h3,bQ]
  refine⟨Zv w1 p1 yP k1 JY h1 J4 Hd Em,⟨by decide,fun n hn=>H0.2.2 n (by rw[<- h3];exact hn),by rw[bQ];have:=H0.2.1;omega,by omega⟩,⟨1100,by have:=H0.2.1;omega,by rw[h3];exact H0.1⟩,Below.bK lV.out ((Grown.refl w1).alloc _).below⟩
 have pJ:=lV.size;have akr:yP.length<=81:=by have h3:=congrArg List.length tF.2.2;rw[bQ]at h3;have:=H0.2.1;omega
 clear tF lV;go_loopg [9] 1200 (fun gg s9 wr=>aeM bA cH W w1 R gg s9 wr)
 case atStart=>exact⟨0,rfl,.inr ⟨rfl,⟨#[]⟩,p1,yP,JY,0,by omega,GZ.out⟩⟩
 case round=>
  obtain⟨e,rfl,⟨he,HE⟩|⟨rfl,a,p,bs,c,h,oP,HI⟩⟩:=hrel
  ·have O0:(e == 0)=aH:=dw.2 he
   go_wp2;go_ret2;refine⟨⟨#[]⟩,?_,?_,HE.2⟩
   ·rw[zL.1,HE.1,aY he];rfl
   ·rw[zL.2,HE.1,aY he]
  ·cases bs with
   | nil=>
    have HR:ax (R=(0,a.data.toList)):=by obtain⟨g,_,hR⟩:=HI.eq;show _=_;rw[hR];exact Fc _ _ _ _ _
    obtain⟨c0,c1,c2,f0,f1,f2,_⟩:=HI.at';have c1:wr.cell? ⟨w1,1,aN⟩=aO (ah p 0 c):=c1;have HB:ax (au W W wr):=HI.below;have HSZ:ax (a.size=a.data.toList.length):=rfl;have ah3:a.size<=100:=HI.ok.len;clear oP;by_cases oq:(80:aF)<(a.size:aF)
    ·go_wp2
     go_ret2;refine⟨⟨#[]⟩,?_,?_,HB.out⟩
     ·rw[zL.1,HR.out,aW (by simp),aY (by simp only;have:=HSZ.out;omega)];rfl
     ·rw[zL.2,HR.out,aW (by simp),aY (by simp only;have:=HSZ.out;omega)]
    ·go_wp2
     go_ret2;refine⟨a,?_,?_,HB.out⟩
     ·rw[zL.1,HR.out,aW (by simp),aW (by simp only;have:=HSZ.out;omega)];rfl
     ·rw[zL.2,HR.out,aW (by simp),aW (by simp only;have:=HSZ.out;omega)]
   | cons x bs=>
    have vh:=RG bA wr w1 a p x bs c h ps sc cH m HI.at' (HL.1.bB HI.below) HL.2.1 (TM HL.1 pJ) HI.ok (by have:=bg HL.2.2.2;simp only at this;omega) ((HI.below.cell (p:=⟨0,0,aN⟩) (bg HL.2.2.2)).trans HL.2.2.2);rw[<- HL.2.2.1]at vh;obtain⟨c0,c1,c2,f0,f1,f2,_⟩:=HI.at';rw[cj]at c1;have BX:wr.cell? ⟨S,2,aN⟩=aO (ah ps sn sc):=(HI.below.cell (p:=⟨S,2,aN⟩) aa9).trans HS.out;rw[cj]at oP;obtain⟨b1,si⟩:=ee bs.length
    rw[<- si]at c1 oP;have lV:ax (b1=bs.length):=si;clear si;have YV:(0:aF)<(b1:aF)+1:=by omega
    by_cases hz:(qE bA cH a x (bs.map (·.data.toList)) h).1=0
    ·have HZ:ax ((qE bA cH a x (bs.map (·.data.toList)) h).1=0):=hz
     rw[hz]at vh;clear hz;go_wp2_with (go_at_call 118;refine vh.mono ?_;clear vh;rintro r w2 ⟨a2,p2,bs2,c2',rfl,j4,BO,uX,uI⟩;have HN:=AP.next HL.2.1 HI.out pJ j4 BO uX uI HZ.out;have Wz:ax _:=HN;clear HN j4 BO uX uI);go_roundg ((9-(qE bA cH a x (bs.map (·.data.toList)) h).2.2.2)*100+bs2.length+1)
     case measure=>have:=Wz.2;have:=lV.out;omega
     case rel=>exact⟨0,rfl,.inr ⟨rfl,a2,p2,bs2,c2',_,aV _,Wz.1⟩⟩
    ·have HZ:ax (R.1=(qE bA cH a x (bs.map (·.data.toList)) h).1):=HI.bad hz
     generalize (qE bA cH a x (bs.map (·.data.toList)) h).1=e2 at vh hz HZ;go_wp2_with (go_at_call 118;refine vh.mono ?_;clear vh;rintro r w2 ⟨a2,p2,bs2,c2',rfl,j4,BO,uX,uI⟩;have Wz:ax (au W W w2):=Nd HI.below uI pJ;clear j4 BO uX uI);go_roundg 0
     case measure=>omega
     case rel=>exact⟨e2,rfl,.inl ⟨hz,HZ.out,Wz.out⟩⟩
theorem zl(bA:aB bP)(way:aA)(cH:Bool)(W:aw)(S:aE)(ps:aC aJ)(sc:aE)(m:aF)(hS:W.cell? ⟨S,2,aN⟩=aO (ah ps bA.length sc))(hL:bI W ps bA)(hr:du aH bA)(hw:way.size<=maxLen)(hm:W.cell? ⟨0,0,aN⟩=aO (aa ag m)):ay aP 71 #[aj (aO S),ai way,aq cH] W (jk (dV bA cH way).1 (dV bA cH way).2 W):=by
 have rf:=Fj way m W hw hm;obtain⟨p1,p2⟩:=tz way.data.toList;unfold dV;by_cases h1:(en way).2=0
 ·rw[aW (oz h1)]
  rw[h1]at rf;have:=VS bA way cH W S ps _ sc rfl m hS hL hr hm _ p1 p2 rf _ rfl;by_cases h2:(nK bA cH 1100 [] (en way).1 0).1=0
  ·rw[aW (oz h2)]at this ⊢
   rw[aW (oz h2)]at this;by_cases h3:80<(nK bA cH 1100 [] (en way).1 0).2.length
   ·rw[aY h3]at this ⊢
    rw[aY h3]at this;exact this
   ·rw[aW h3]at this ⊢
    rw[aW h3]at this;exact this
  ·rw[aY h2]at this ⊢
   rw[aY h2]at this;exact this
 ·rw[aY h1]
  exact SR bA way cH W S _ h1 _ rf
end Go.Proofs.YtjnkfelecopbjaaGreatDoor
namespace Go.Proofs.YtjnkfelecopbjaaGreatDoor.LK
open Go.RowKit Go.Sort KM
variable{B aS cap g i j n:aE}{W W2 a b w w':aw}{dk l t:aB Lk}{e y:Lk}{o:Obj}{p:aC aJ}{pr:Lk->Bool}{v:az}
def jY(e:Lk):aB az:=[aa ag e.o,aa ag e.f,aa ag e.t,aq e.a]
def Grown(w w':aw):Prop:=∃ n os,w'=grow (w.drewN n) os
theorem Grown.refl(w:aw):Grown w w:=⟨0,#[],by simp[grow,World.drewN]⟩
theorem Grown.trans{c:aw}(h:Grown a b)(g:Grown b c):Grown a c:=by obtain⟨n,os,rfl⟩:=h;obtain⟨m,ps,rfl⟩:=g;exact⟨n+m,os++ps,by simp[grow,World.drewN,dh]⟩
theorem Grown.alloc(h:Grown a b)(o:Obj):Grown a (b.alloc o):=h.trans ⟨0,#[o],by rw[alloc_eq_grow];rfl⟩
theorem Grown.drewN(h:Grown a b)(n:aE):Grown a (b.drewN n):=h.trans ⟨n,#[],by simp[grow,World.drewN]⟩
theorem Grown.below(h:Grown a b):au a a b:=by obtain⟨n,os,rfl⟩:=h;refine⟨rfl,rfl,rfl,by simp[grow,World.drewN],fun k hk=>?_⟩;show(a.heap++os)[k]?=_;rw[lA hk]
theorem Grown.cell(h:Grown a b){p:aJ}(hp:p.block<a):b.cell? p=a.cell? p:=h.below.cell hp
theorem Grown.size(h:Grown a b):a.heap.size<=b.heap.size:=h.below.size
def bI(w:aw)(p:aC aJ)(l:aB Lk):Prop:=
 l=[]\/∃ b off,p=aO ⟨b,off,aN⟩/\b<w.heap.size/\∀ j e,l[j]?=aO e->∀ i v,(jY e)[i]?=aO v->w.cell? ⟨b,off+j*4+i,aN⟩=aO v
theorem bI.below(h:bI w p l)(hB:au B w w')(hs:w<=B):bI w' p l:=by
 rcases h with h|⟨b,off,h1,h2,h3⟩
 ·exact .inl h
 ·exact .inr ⟨b,off,h1,aZ h2 hB.size,fun j e hj i v hv=>(hB.cell (p:=⟨b,off+j*4+i,aN⟩) (aZ h2 hs)).trans (h3 j e hj i v hv)⟩
theorem bI.bB(h:bI w p l)(hB:au w w w'):bI w' p l:=h.below hB (aV _)
theorem bI.grown(h:bI w p l)(hB:Grown w w'):bI w' p l:=h.bB hB.below
theorem bI.nil(w:aw)(p:aC aJ):bI w p []:=.inl rfl
theorem bI.take(h:bI w p l)(k:aE):bI w p (l.take k):=by
 rcases h with h|⟨b,off,h1,h2,h3⟩
 ·exact .inl (by rw[h];simp)
 ·refine .inr ⟨b,off,h1,h2,fun j e hj=>h3 j e ?_⟩
  rw[dm]at hj;split at hj
  ·exact hj
  ·cases hj
theorem bI.cells{b off:aE}(h3:∀ j e,l[j]?=aO e->∀ i v,(jY e)[i]?=aO v->w.cell? ⟨b,off+j*4+i,aN⟩=aO v)(hb:b<w)(hW:au w w W)(he:l[j]?=aO e):W.cell? ⟨b,off+j*4,aN⟩=aO (aa ag e.o)/\W.cell? ⟨b,off+j*4+1,aN⟩=aO (aa ag e.f)/\W.cell? ⟨b,off+j*4+2,aN⟩=aO (aa ag e.t)/\W.cell? ⟨b,off+j*4+3,aN⟩=aO (aq e.a):=by
 have h:=fun i v hv=>(hW.cell (p:=⟨b,off+j*4+i,aN⟩) hb).trans (h3 j e he i v hv)
 exact⟨h 0 _ rfl,h 1 _ rfl,h 2 _ rfl,h 3 _ rfl⟩
theorem gu{k:IntKind}{a b:aF}(h:a=b):Ending.returned (.int k a)=aK (.int k b):=by rw[h]
theorem df{a b:Bool}(h:a=b):Ending.returned (aq a)=aK (aq b):=by rw[h]
theorem iv{a b c d:az}{t:TypeId}(hB:w<B)(h:au B (w.alloc (aM #[a,b,c,d] t)) W):(W.cell? w=aO a/\W.cell? ⟨w,1,aN⟩=aO b/\W.cell? ⟨w,2,aN⟩=aO c/\W.cell? ⟨w,3,aN⟩=aO d) /\
  (W.frozen? w=aH/\W.frozen? ⟨w,1,aN⟩=aH/\W.frozen? ⟨w,2,aN⟩=aH/\W.frozen? ⟨w,3,aN⟩=aH):=by
 have hc:=fun i=>h.cell (p:=⟨w,i,aN⟩) hB
 have hf:=fun i=>h.frozen (p:=⟨w,i,aN⟩) hB
 refine⟨⟨(hc 0).trans ?_,(hc 1).trans ?_,(hc 2).trans ?_,(hc 3).trans ?_⟩,⟨(hf 0).trans ?_,(hf 1).trans ?_,(hf 2).trans ?_,(hf 3).trans ?_⟩⟩<;>simp
theorem nw{a b:az}{t:TypeId}(hB:w<B)(h:au B (w.alloc (aM #[a,b] t)) W):(W.cell? w=aO a/\W.cell? ⟨w,1,aN⟩=aO b)/\(W.frozen? w=aH/\W.frozen? ⟨w,1,aN⟩=aH):=by
 have hc:=fun i=>h.cell (p:=⟨w,i,aN⟩) hB
 have hf:=fun i=>h.frozen (p:=⟨w,i,aN⟩) hB
 refine⟨⟨(hc 0).trans ?_,(hc 1).trans ?_⟩,⟨(hf 0).trans ?_,(hf 1).trans ?_⟩⟩<;>simp
theorem Below.bK{w'':aw}(h:au w w w')(k:au w' w' w''):au w w w'':=h.trans (k.mono h.size)
theorem oC(h:au (w.heap.size+1) (w.alloc o) W)(g:au W W W2):au (w.heap.size+1) (w.alloc o) W2:=h.trans (g.mono (by have:=h.size;simpa using this))
theorem eX(h:au (w.heap.size+1) (w.alloc o) W):au w w W:=((aR _ _).alloc (aV _) _).trans (h.mono (by omega))
def oJ(pr:Lk->Bool)(t:aB Lk)(w:aw)(r:Ending)(w':aw):Prop:=
 Grown w w'/\((r=aK (aa ag (-1))/\∀ x∈t,pr x=aH)\/∃ (k:aE) (y:Lk),t[k]?=aO y/\r=aK (aa ag k)/\pr y=aI/\∀ x∈t.take k,pr x=aH)
theorem rM{k:aE}(hy:t[k]?=aO y)(hp:pr y=aH)(h:∀ x∈t.take k,pr x=aH):∀ x∈t.take (k+1),pr x=aH:=by
 obtain⟨h1,h2⟩:=aQ.1 hy;intro x hx;rw[dC h1]at hx;rcases bZ.1 hx with hx|hx
 ·exact h x hx
 ·simp at hx;rw[hx,h2];exact hp
theorem tj(pr:Lk->Bool)(g:aE)(lb:Array az)(eg:∀ args w,(callFunc g args).run aP w=.ok (.enter g args) w)(t:aB Lk)(p:aC aJ)(cap:aE)(w:aw)(hL:bI w p t)(hn:t.length<4611686018427387904)(hp:∀ W x,Grown w W->x∈t->ay aP g (#[.agg #[aa ag x.o, aa ag x.f, aa ag x.t, aq x.a]]++lb) W fun e w'=>e=aK (aq (pr x))/\Grown W w'):ay aP 184 #[ah p t.length cap,.func (.func g) #[] lb] w (oJ pr t w):=by
 have HP:ax _:=hp;have HL:ax (bI w p t):=hL;clear hL hp;obtain⟨n,eK⟩:=ee t.length
 have HN:ax (n=t.length):=eK;rw[<- eK]at hn ⊢;clear eK;go_enter func184,ntmps184;go_wp2;go_loopg [5,8] n (fun gg _ s8 wr=>∃ kk:aE,kk<=n/\n-kk<=gg/\s8=aa ag kk/\ax (Grown w wr)/\ax (∀ x∈t.take kk,pr x=aH))
 case atStart=>exact⟨0,bF _,by omega,rfl,Grown.refl w,by intro x hx;simp at hx⟩
 case round=>
  obtain⟨kk,tH,hg,rfl,BW,A⟩:=hrel;by_cases gm:kk<n
  ·have eN:(kk:aF)<(n:aF):=by omega
   obtain⟨y,hy⟩:∃ y,t[kk]?=aO y:=⟨_,aU (by have:=HN.out;omega)⟩
   have Y:ax (t[kk]?=aO y):=hy;have gW:=HP.out wr y BW.out (bw hy);rcases HL.out with h0|⟨b,off,rfl,hb,hc⟩
   ·rw[h0]at hy;simp at hy
   obtain⟨c0,c1,c2,c3⟩:=bI.cells hc hb BW.below hy;clear hc hy;cases hq:pr y with
   | true =>rw[hq]at gW;go_wp2_with (go_at_fn g;refine gW.mono ?_;rintro e w' ⟨rfl,ot⟩);go_ret;exact⟨BW.trans ot,.inr ⟨kk,y,Y.out,rfl,hq,A.out⟩⟩
   | false=>
    rw[hq]at gW;go_wp2_with (go_at_fn g;refine gW.mono ?_;rintro e w' ⟨rfl,ot⟩);go_roundg (n-(kk+1))
    case measure=>omega
    case rel=>exact⟨kk+1,by omega,by omega,by go_num,BW.trans ot,rM Y.out hq A.out⟩
  ·have eN:¬ (kk:aF)<(n:aF):=by omega
   have:kk=n:=by omega
   subst this;go_wp2;go_ret;refine⟨BW.out,.inl ⟨rfl,fun x hx=>A.out x ?_⟩⟩;rw[cz (by rw[HN.out];exact aV _)];exact hx
def Own(w:aw)(g cap:aE)(l:aB Lk):Prop:=
 ∃ eI:Array az,w.heap[g]?=aO (aM eI 117 (0,0))/\eI.size=cap*4/\l.length<=cap/\cap<=maxLen/\∀ j e,l[j]?=aO e->∀ i v,(jY e)[i]?=aO v->eI[j*4+i]?=aO v
theorem lY(e:Lk):(jY e).length=4:=rfl
theorem sa(h:(jY e)[i]?=aO v):i<4:=by have:=(aQ.1 h).1;rwa [lY]at this
theorem iY(ns:aB Lk):(ns.flatMap jY).length=ns.length*4:=by
 induction ns with
 | nil=>rfl
 | cons x r ih=>rw[eQ,cJ,ih,lY];simp;omega
section
variable {w w' W:aw}{g cap:aE}{l:aB Lk}
theorem Own.lt(h:Own w g cap l):g<w.heap.size:=by obtain⟨eI,hc,_⟩:=h;exact(aX.1 hc).1
theorem Own.len(h:Own w g cap l):l.length<=cap:=by obtain⟨_,_,_,h,_⟩:=h;exact h
theorem Own.max(h:Own w g cap l):cap<=maxLen:=by obtain⟨_,_,_,_,h,_⟩:=h;exact h
theorem Own.frozen(h:Own w g cap l)(o:aE):w.frozen? ⟨g,o,aN⟩=aH:=by obtain⟨eI,hc,_⟩:=h;simp[World.frozen?,hc]
theorem Own.there(h:Own w g cap l){o:aE}(ho:o<cap*4):(w.cell? ⟨g,o,aN⟩).isSome=aI:=by obtain⟨eI,hc,hs,_⟩:=h;simp[World.cell?,hc,hs,ho]
theorem Own.cell(h:Own w g cap l)(he:l[j]?=.some e)(hv:(jY e)[i]?=.some v):w.cell? ⟨g,j*4+i,aN⟩=.some v:=by obtain⟨eI,hc,_,_,_,h⟩:=h;simp[World.cell?,hc,h j e he i v hv]
theorem Own.cells(h:Own w g cap l)(he:l[j]?=.some e):(w.cell? ⟨g,j*4,aN⟩=.some (aa ag e.o)/\w.cell? ⟨g,j*4+1,aN⟩=.some (aa ag e.f)/\w.cell? ⟨g,j*4+2,aN⟩=.some (aa ag e.t)/\w.cell? ⟨g,j*4+3,aN⟩=.some (aq e.a)) /\
  (w.frozen? ⟨g,j*4,aN⟩=aH/\w.frozen? ⟨g,j*4+1,aN⟩=aH/\w.frozen? ⟨g,j*4+2,aN⟩=aH/\w.frozen? ⟨g,j*4+3,aN⟩=aH):=
 ⟨⟨h.cell he (i:=0) rfl,h.cell he (i:=1) rfl,h.cell he (i:=2) rfl,h.cell he (i:=3) rfl⟩,h.frozen _,h.frozen _,h.frozen _,h.frozen _⟩
theorem Own.anO(h:Own w g cap l):bI w (.some ⟨g,0,aN⟩) l:=
 .inr ⟨g,0,rfl,h.lt,fun j e he i v hv=>by rw[dD];exact h.cell he hv⟩
theorem Own.bB(h:Own w g cap l)(hk:w'.heap[g]?=w.heap[g]?):Own w' g cap l:=by obtain⟨eI,hc,h⟩:=h;exact⟨eI,hk.trans hc,h⟩
theorem Own.below(h:Own w g cap l)(hB:au B w w')(hg:g<B):Own w' g cap l:=h.bB (hB.block g hg)
theorem Own.grown(h:Own w g cap l)(hB:Grown w w'):Own w' g cap l:=h.below hB.below h.lt
theorem Own.take(h:Own w g cap l)(k:aE):Own w g cap (l.take k):=by
 obtain⟨eI,hc,hs,hl,hm,h⟩:=h;refine⟨eI,hc,hs,by rw[bL];omega,hm,fun j e he=>h j e ?_⟩;rw[dm]at he;split at he
 ·exact he
 ·cases he
theorem heap_set{eI:Array az}{t:TypeId}{f:aE × aE}(h:w.heap[g]?=.some (aM eI t f))(o:aE)(v:az):(w.setCell ⟨g,o,aN⟩ v).heap[g]?=.some (aM (eI.setIfInBounds o v) t f):=by simp[World.setCell,iJ,h]
theorem Own.setCells{vs:aB az}{o:aE}(h:Own w g cap l):∃ eI cur':Array az,w.heap[g]?=.some (aM eI 117 (0,0))/\(w.setCells g o vs).heap[g]?=.some (aM cur' 117 (0,0))/\cur'.size=eI.size/\(∀ x,x<o\/o+vs.length<=x->cur'[x]?=eI[x]?)/\(∀ j v,vs[j]?=.some v->o+j<eI.size->cur'[o+j]?=.some v):=by
 obtain⟨eI,hc,_⟩:=h;refine⟨eI,?_⟩;have key:∀ (vs:aB az) (o:aE) (w:aw) (eI:Array az),w.heap[g]?=.some (aM eI 117 (0,0))->∃ cur':Array az,(w.setCells g o vs).heap[g]?=.some (aM cur' 117 (0,0))/\cur'.size=eI.size/\(∀ x,x<o\/o+vs.length<=x->cur'[x]?=eI[x]?)/\(∀ j v,vs[j]?=.some v->o+j<eI.size->cur'[o+j]?=.some v):=by
  intro vs;induction vs with
  | nil=>intro o w eI hc;exact⟨eI,hc,rfl,fun _ _=>rfl,fun j v hj=>by simp at hj⟩
  | cons v r ih=>
   intro o w eI hc;obtain⟨cur',h1,h2,h3,h4⟩:=ih (o+1) (w.setCell ⟨g,o,aN⟩ v) _ (heap_set hc o v);refine⟨cur',h1,by rw[h2];simp,fun x hx=>?_,fun j u hj gm=>?_⟩
   ·rw[h3 x (by simp at hx;omega),fE,aW (by simp at hx;omega)]
   ·cases j with
    | zero =>simp at hj;subst hj;rw[Kq,h3 o (by omega),fE,aY rfl,aY (by omega)]
    | succ j=>rw[show o+(j+1)=o+1+j by omega];exact h4 j u (by simpa using hj) (by simp;omega)
 obtain⟨cur',h1,h2,h3,h4⟩:=key vs o w eI hc;exact⟨cur',hc,h1,h2,h3,h4⟩
theorem Own.beyond{vs:aB az}{o:aE}(h:Own w g cap l)(ho:l.length*4<=o):Own (w.setCells g o vs) g cap l:=by
 obtain⟨eI,cur',h0,h1,h2,h3,_⟩:=h.setCells (vs:=vs) (o:=o);obtain⟨c,hc,hs,hl,hm,hh⟩:=h;obtain rfl:c=eI:=by have:=hc.symm.trans h0;simpa using this
 refine⟨cur',h1,by rw[h2,hs],hl,hm,fun j e he i v hv=>?_⟩;have hj:=(aQ.1 he).1;have hi:=sa hv;rw[h3 _ (by omega)];exact hh j e he i v hv
theorem Own.over{ns:aB Lk}(h:Own w g cap l)(hj:j<=l.length)(hc:j+ns.length<=cap):Own (w.setCells g (j*4) (ns.flatMap jY)) g cap (l.take j++ns++l.drop (j+ns.length)):=by
 obtain⟨eI,cur',h0,h1,h2,h3,h4⟩:=h.setCells (vs:=ns.flatMap jY) (o:=j*4);obtain⟨c,IE,hs,hl,hm,hh⟩:=h;obtain rfl:c=eI:=by have:=IE.symm.trans h0;simpa using this
 have hfl:=iY ns;refine⟨cur',h1,by rw[h2,hs],by simp;omega,hm,fun k e he i v hv=>?_⟩;have hi:=sa hv;by_cases c1:k<j
 ·rw[gl,bR (by rw[bL];omega),dm,aY c1]at he
  rw[h3 _ (by omega)];exact hh k e he i v hv
 ·by_cases c2:k<j+ns.length
  ·rw[gl,cg (by rw[bL];omega),bL,eM hj,bR (by omega)]at he
   rw[show k*4+i=j*4+((k-j)*4+i) by omega];refine h4 _ v ?_ (by rw[hs];omega);have key:∀ (ns:aB Lk) (q:aE),ns[q]?=.some e->(ns.flatMap jY)[q*4+i]?=.some v:=by
    intro ns;induction ns with
    | nil=>intro q hq;simp at hq
    | cons x r ih=>
     intro q hq;rw[eQ];cases q with
     | zero=>simp at hq;subst hq;rw[bR (by rw[lY];omega)];simpa using hv
     | succ q =>rw[cg (by rw[lY];omega),lY,show(q+1)*4+i-4=q*4+i by omega];exact ih q (by simpa using hq)
   exact key ns _ he
  ·rw[cg (by rw[cJ,bL];omega),cJ,bL,eM hj,fN,show j+ns.length+(k-(j+ns.length))=k by omega]at he
   rw[h3 _ (by rw[hfl];omega)];exact hh k e he i v hv
theorem Mu(l:aB Lk)(j:aE)(e:Lk)(hj:j<l.length):l.take j++[e]++l.drop (j+1)=l.set j e:=by
 apply dz;intro k;rw[eR];by_cases c1:k<j
 ·rw[gl,bR (by rw[bL];omega),dm,aY c1,aW (by omega)]
 ·by_cases c2:k=j
  ·subst c2
   rw[gl,cg (by rw[bL];omega),bL,eM (by omega)];simp[hj]
  ·rw[cg (by simp;omega),aW (by omega)]
   simp only[cJ,bL,eM (bM hj),jL,fN];congr 1;omega
theorem Own.set(h:Own w g cap l)(hj:j<l.length)(e:Lk):Own ((((w.setCell ⟨g,j*4,aN⟩ (aa ag e.o)).setCell ⟨g,j*4+1,aN⟩ (aa ag e.f)).setCell ⟨g,j*4+2,aN⟩ (aa ag e.t)).setCell ⟨g,j*4+3,aN⟩ (aq e.a)) g cap (l.set j e):=by have:=h.over (ns:=[e]) (j:=j) (by omega) (by have:=h.len;simp;omega);rw[jL,Mu l j e hj]at this;exact this
/-! what else has turned -/
theorem k9(w:aw)(r:aC aE):w.grownBy w r:=⟨rfl,rfl,rfl,aV _,fun _ _ _=>rfl⟩
theorem jB(h:w.grownBy W (.some g))(hB:au W W w'):w.grownBy w' (.some g):=
 ⟨hB.os.trans h.os,hB.tape.trans h.tape,hB.output.trans h.output,bc h.size hB.size,fun k hk hn=>(hB.block k (aZ hk h.size)).trans (h.block k hk hn)⟩
theorem jT(h:w.grownBy W (.some g))(hB:Grown W w'):w.grownBy w' (.some g):=jB h hB.below
theorem Ag(h:w.grownBy W (.some g))(o:Obj):w.grownBy (W.alloc o) (.some g):=jT h ((Grown.refl W).alloc o)
theorem jN(h:w.grownBy W (.some g))(o:aE)(v:az):w.grownBy (W.setCell ⟨g,o,aN⟩ v) (.some g):=
 ⟨h.os,h.tape,h.output,by simp[World.setCell];exact h.size,fun k hk hn=>(cI _ _ _ _ (by intro e;exact hn (by rw[e]))).trans (h.block k hk hn)⟩
theorem kB:∀ (vs:aB az) (o:aE) (W:aw),w.grownBy W (.some g)->w.grownBy (W.setCells g o vs) (.some g)
 | [],_,_,h=>h
 | v::r,o,W,h=>kB r (o+1) _ (jN h o v)
theorem lZ(h:w.grownBy W (.some g)){a:aJ}(ha:a.block<w)(hn:a.block≠g):W.cell? a=w.cell? a:=ji (w:=w) (h.block _ ha (by simpa using hn))
theorem EX(h:w.grownBy W (.some g))(k:W.grownBy W2 (.some g)):w.grownBy W2 (.some g):=
 ⟨k.os.trans h.os,k.tape.trans h.tape,k.output.trans h.output,bc h.size k.size,fun i hi hn=>(k.block i (aZ hi h.size) hn).trans (h.block i hi hn)⟩
end
theorem Aa(h:Own w g cap l){c:aE}(hn:0<n)(hi:i+n<=cap):∃ zs,∀ ty,(Builtin.clear_ #[96] ty #[ah (aO ⟨g,i*4,aN⟩) n c]).run aP w=.ok (aL #[]) (w.setCells g (i*4) zs):=by
 refine⟨(Builtin.zeroCells #[aa ag 0,aa ag 0,aa ag 0,aq aH] n).toList,fun ty=>?_⟩;have hlen:(Builtin.zeroCells #[aa ag 0,aa ag 0,aa ag 0,aq aH] n).toList.length=n*4:=by simp[Builtin.zeroCells]
 have kQ:=Hi (P:=aP) g (i*4) (Builtin.zeroCells #[aa ag 0,aa ag 0,aa ag 0,aq aH] n).toList 0 w
  (fun j hj=>by rw[hlen]at hj;exact h.there (by omega)) (fun j _=>h.frozen _) (fun v hv=>by
    simp only[Builtin.zeroCells,Array.toList_map,fT]at hv;obtain⟨k,_,rfl⟩:=hv;have:k % 4<4:=U6 _ (by decide);show(#[Value.int .i64 0,aa ag 0,aa ag 0,aq aH][k % 4]!).oneCell'=aI;generalize k % 4=r at this
    match r,this with
    | 0,_=>rfl
    | 1,_=>rfl
    | 2,_=>rfl
    | 3,_=>rfl)
 obtain⟨m,rfl⟩:∃ m,n=m+1:=⟨n-1,by omega⟩
 have Y5:(storeCells ⟨g,i*4,aN⟩ (Builtin.zeroCells #[aa ag 0,aa ag 0,aa ag 0,aq aH] (m+1)).toList).run aP w=.ok () (w.setCells g (i*4) (Builtin.zeroCells #[aa ag 0,aa ag 0,aa ag 0,aq aH] (m+1)).toList):=kQ;simp[Builtin.clear_,lW underlying96,Value.cells,Y5]
structure kI (pr:Lk->Bool) (l:aB Lk) (w:aw) (g cap i j:aE) (dk:aB Lk) (W:aw):Prop where
 own:Own W g cap dk
 len:dk.length=l.length
 head:dk.take i=(l.take j).filter fun x => !pr x
 tail:dk.drop j=l.drop j
 OO:w.grownBy W (aO g)
theorem kI.at(h:kI pr l w g cap i j dk W)(hy:l[j]?=aO y):dk[j]?=aO y:=by have:=congrArg (·[0]?) h.tail;simpa[fN,hy]using this
theorem gi(hy:l[j]?=aO y):l.take (j+1)=l.take j++[y]:=by obtain⟨h1,h2⟩:=aQ.1 hy;rw[dC h1,h2]
theorem kI.skip(h:kI pr l w g cap i j dk W)(hy:l[j]?=aO y)(hp:pr y=aI)(hG:Grown W W2):kI pr l w g cap i (j+1) dk W2:=
 ⟨h.own.grown hG,h.len,by rw[gi hy,eu,h.head];simp[hp],by have:=congrArg (·.drop 1) h.tail;simpa[D9]using this,jT h.OO hG⟩
theorem kI.keep(h:kI pr l w g cap i j dk W)(hy:l[j]?=aO y)(hp:pr y=aH)(hG:Grown W W2)(O5:i<j):kI pr l w g cap (i+1) (j+1) (dk.set i y) ((((W2.setCell ⟨g,i*4,aN⟩ (aa ag y.o)).setCell ⟨g,i*4+1,aN⟩ (aa ag y.f)).setCell ⟨g,i*4+2,aN⟩ (aa ag y.t)).setCell ⟨g,i*4+3,aN⟩ (aq y.a)):=by
 have hj:=(aQ.1 hy).1;have hi:i<dk.length:=by rw[h.len];omega
 refine⟨(h.own.grown hG).set hi y,by rw[fW,h.len],?_,?_,jN (jN (jN (jN (jT h.OO hG) _ _) _ _) _ _) _ _⟩
 ·rw[gi hy,eu,<- h.head,gi (y:=y) (by rw[eR,aY rfl,aY hi])]
  rw[ahz (aV _)];simp[hp]
 ·have:=congrArg (·.drop 1) h.tail
  rw[ahx (by omega)];simpa[D9]using this
theorem oJ.parts{r:Ending}(hn:n=t.length)(h:oJ pr t w r w'):Grown w w'/\((r=aK (aa ag (-1))/\∀ x∈t,pr x=aH)\/∃ (k:aE) (y:Lk),k<n/\t[k]?=aO y/\r=aK (aa ag k)/\pr y=aI/\∀ x∈t.take k,pr x=aH):=by
 obtain⟨h1,h2|⟨k,y,h3,h4⟩⟩:=h
 ·exact⟨h1,.inl h2⟩
 ·exact⟨h1,.inr ⟨k,y,by rw[hn];exact(aQ.1 h3).1,h3,h4⟩⟩
theorem tS(pr:Lk->Bool)(gf:aE)(lb:Array az)(eg:∀ args w,(callFunc gf args).run aP w=.ok (.enter gf args) w)(l:aB Lk)(g cap:aE)(w:aw)(hO:Own w g cap l)(hn:l.length<4611686018427387904)(hp:∀ W x,w.grownBy W (aO g)->x∈l->ay aP gf (#[.agg #[aa ag x.o, aa ag x.f, aa ag x.t, aq x.a]]++lb) W fun e w'=>e=aK (aq (pr x))/\Grown W w'):ay aP 181 #[ah (aO g) l.length cap,.func (.func gf) #[] lb] w fun e w'=>
   e=aK (ah (aO g) (l.filter fun x => !pr x).length cap)/\Own w' g cap (l.filter fun x => !pr x)/\w.grownBy w' (aO g):=by
 have hI:=tj pr gf lb eg l (aO ⟨g,0,aN⟩) cap w hO.anO hn (fun W x hG hx=>hp W x (jT (k9 w _) hG) hx);have HO:ax (Own w g cap l):=hO;have HP:ax _:=hp;have ir:l.length<=cap:=hO.len;have KZ:=hO.max;unfold maxLen at KZ;clear hp hO;obtain⟨n,eK⟩:=ee l.length
 have HN:ax (n=l.length):=eK;rw[<- eK]at hn ir hI ⊢;clear eK;go_enter func181,ntmps181;go_wp2_with (go_at_call 184;refine hI.mono ?_;clear hI;intro e w1 Vo;rcases oJ.parts HN.out Vo with⟨hG,⟨rfl,ha⟩|⟨k0,y0,A1,hy0,rfl,YX,ha⟩⟩<;>clear Vo)
 ·go_ret
  have hf:(l.filter fun x => !pr x)=l:=qb.2 fun x hx=>by simp[ha x hx]
  rw[hf];exact⟨by rw[<- HN.out];rfl,HO.grown hG,jT (k9 w _) hG⟩
 ·have GZ:ax (kI pr l w g cap k0 (k0+1) l w1):=⟨HO.grown hG,rfl,by rw[gi hy0,eu,qb.2 (fun x hx=>by simp[ha x hx])];simp[YX],rfl,jT (k9 w _) hG⟩
  clear hy0 ha hG;have abN:((k0:aF) == -1)=aH:=dw.2 (by omega);go_wp2;go_loopg [5,6,7] n (fun gg s5 s6 _ wr=>∃ (i j:aE) (dk:aB Lk),s5=aa ag i/\s6=aa ag j/\i<j/\j<=n/\n-j<=gg/\ax (kI pr l w g cap i j dk wr))
  case atStart=>exact⟨k0,k0+1,l,rfl,by go_num,by omega,by omega,by omega,GZ.out⟩
  case round=>
   obtain⟨i,j,dk,rfl,rfl,O5,hjn,oP,INV⟩:=hrel;have Gd:=INV.own.lt;have hne:g≠wr.heap.size:=by omega
   by_cases gm:j<n
   ·have eN:(j:aF)<(n:aF):=by omega
    obtain⟨y,hy⟩:∃ y,l[j]?=aO y:=⟨_,aU (by have:=HN.out;omega)⟩
    have HY:ax (l[j]?=aO y):=hy;obtain⟨⟨c0,c1,c2,c3⟩,_⟩:=INV.own.cells (INV.at hy);have gW:=HP.out _ y (Ag INV.OO (aM #[aa ag y.o, aa ag y.f, aa ag y.t, aq y.a] 117)) (bw hy);obtain⟨z,hz⟩:∃ z,dk[i]?=aO z:=⟨_,aU (by rw[INV.len];have:=HN.out;omega)⟩
    have HZ:ax (dk[i]?=aO z):=hz;clear hy hz;cases hq:pr y with
    | true=>
     rw[hq]at gW;go_wp2_with (go_at_fn gf;refine gW.mono ?_;clear gW;rintro e w2 ⟨rfl,Ah⟩);go_roundg (n-(j+1))
     case measure=>omega
     case rel=>exact⟨i,j+1,dk,rfl,by go_num,by omega,by omega,aV _,INV.skip HY.out hq (((Grown.refl wr).alloc _).trans Ah)⟩
    | false=>
     rw[hq]at gW;go_wp2_with (go_at_fn gf;refine gW.mono ?_;clear gW;rintro e w2 ⟨rfl,Ah⟩;obtain⟨⟨b0,b1,b2,b3⟩,_⟩:=iv (by simp) Ah.below;obtain⟨⟨a0,a1,a2,a3⟩,⟨f0,f1,f2,f3⟩⟩:=(INV.own.grown (((Grown.refl wr).alloc _).trans Ah)).cells HZ.out);go_roundg (n-(j+1))
     case measure=>omega
     case rel=>exact⟨i+1,j+1,dk.set i y,by go_num,by go_num,by omega,by omega,aV _,INV.keep HY.out hq (((Grown.refl wr).alloc _).trans Ah) O5⟩
   ·obtain rfl:j=n:=by omega
    have eN:¬ (j:aF)<(j:aF):=by omega
    obtain⟨zs,hzs⟩:=Aa INV.own (i:=i) (n:=j-i) (c:=cap-i) (by omega) (by omega);have hic:¬ cap=i:=by omega
    go_wp2;go_ret;have hf:(l.filter fun x => !pr x)=dk.take i:=by rw[INV.head,HN.out,gh]
    have hl:(dk.take i).length=i:=by rw[bL,INV.len];have:=HN.out;omega
    rw[hf,hl];exact⟨rfl,(INV.own.take i).beyond (by rw[hl];exact aV _),kB _ _ _ INV.OO⟩
theorem Nz:∃ i0,Tryz.prog.info? 117=aO i0/\i0.zero=aO (.agg #[aa ag 0,aa ag 0,aa ag 0,aq aH])/\i0.size=4/\i0.bytes=32:=by
 have h:(Tryz.prog.info? 117).map (fun i=>(i.zero,i.size,i.bytes))=aO (aO (.agg #[aa ag 0,aa ag 0,aa ag 0,aq aH]),4,32):=by kernel_rfl
 cases hi:Tryz.prog.info? 117 with
 | none=>rw[hi]at h;cases h
 | some i0 =>rw[hi]at h;simp only[dF,dt,jX]at h;exact⟨i0,rfl,h.1,h.2.1,h.2.2⟩
theorem sU{k:aE}{u:az}(h:(t.flatMap jY)[k]?=aO u):∃ j e i,t[j]?=aO e/\(jY e)[i]?=aO u/\k=j*4+i:=by
 induction t generalizing k with
 | nil=>simp at h
 | cons x r ih=>
  rw[eQ]at h;by_cases hk:k<4
  ·rw[bR (by rw[lY];exact hk)]at h
   exact⟨0,x,k,rfl,h,by omega⟩
  ·rw[cg (by rw[lY];omega),lY]at h
   obtain⟨j,e,i,h1,h2,h3⟩:=ih h;exact⟨j+1,e,i,by simpa using h1,h2,by omega⟩
theorem yY(h:t[j]?=aO e)(hv:(jY e)[i]?=aO v):(t.flatMap jY)[j*4+i]?=aO v:=by
 have hi:=sa hv;induction t generalizing j with
 | nil=>simp at h
 | cons x r ih=>
  rw[eQ];cases j with
  | zero=>simp at h;subst h;rw[bR (by rw[lY];omega)];simpa using hv
  | succ j =>rw[cg (by rw[lY];omega),lY,show(j+1)*4+i-4=j*4+i by omega];exact ih (by simpa using h)
theorem kA{u:az}(h:u∈t.flatMap jY):u.oneCell'=aI:=by obtain⟨e,_,he⟩:=mW.1 h;simp[jY]at he;rcases he with rfl|rfl|rfl|rfl<;>rfl
theorem bI.flat{ad:aJ}(h:bI w (aO ad) t)(hW:au w w W):∀ j u,(t.flatMap jY)[j]?=aO u->W.cell? (ad.add j)=aO u:=by
 intro k u hu;obtain⟨j,e,i,h1,h2,rfl⟩:=sU hu;rcases h with rfl|⟨b,off,he,hb,hc⟩
 ·simp at h1
 ·cases he
  rw[dG,hW.cell (p:=⟨b,off+(j*4+i),aN⟩) hb,<- dh];exact hc j e h1 i u h2
theorem Own.pS(h:w.ownsRow aS 117 4 v n (t.flatMap jY))(hv:v≠ah aN 0 0)(hn:n=t.length):∃ g c,v=ah (aO ⟨g,0,aN⟩) t.length c/\aS<=g/\Own w g c t:=by
 obtain⟨h1,h2|⟨g,cap,eI,yE,hg,hh,C6,hm,hs,ht⟩⟩:=h
 ·exact aG h2.1 hv
 ·subst hn
  refine⟨g,cap,yE,hg,eI,hh,hs,C6,hm,fun j e he i v UF=>?_⟩;have:=yY he UF;rw[<- ht,dm]at this;split at this
  ·rw[<- gJ];exact this
  ·cases this
theorem om(w:aw)(H:aE)(hH:H=w):(w.alloc (aM #[] 117)).ownsRow H 117 4 (ah (aO H) 0 0) 0 []:=by subst hH;exact⟨rfl,.inr ⟨w.heap.size,0,#[],rfl,aV _,(by show(w.heap.push _)[w.heap.size]?=_;simp),aV _,by decide,rfl,rfl⟩⟩
theorem mC{ops:Array Oper}{rest:aB Oper}{o:Oper}{a:Act}{Q:Exit->Act->aw->Prop}(W:aw)(ly:o.guard=aN)(s x:Operand)(ho:o.op=.call { callee:=.builtin .append,args:=#[s,x],argTypes:=#[96,96] })(H:aE)(hs:a.eval s=ah (aO H) 0 0)(gG:W.ownsRow H 117 4 (ah (aO H) 0 0) 0 [])(p:aC aJ)(n cap:aE)(t:aB Lk)(hx:a.eval x=ah p n cap)(hn:n=t.length)(hL:bI W p t)(iR:p=aN->cap=0)(oq:n*32<=140737488355328)(hH:H<=W)(h:∀ g c w',Own w' g c t->H<=g->au H W w'->wpList aP ops Q rest (a.put o.dst (ah (aO ⟨g,0,aN⟩) n c)) w'):wpList aP ops Q (o::rest) a W:=by
 obtain⟨i0,hi,ou,mL,mh⟩:=Nz;cases p with
 | none=>
  obtain rfl:cap=0:=iR rfl;have ht:t=[]:=by
   rcases hL with h|⟨b,off,he,_⟩
   ·exact h
   ·cases he
  subst ht;obtain rfl:n=0:=hn;refine wpList_append_own_none ly s x 96 ho H 117 i0 4 underlying96 hi _ 0 [] hs gG hx ?_;obtain⟨g,c,hv,hg,Cp⟩:=Own.pS (t:=[]) gG (by simp) rfl;simp only[ib]at hv;rw[hv];exact h g c W Cp hg (aR _ _)
 | some ad =>refine dP W ly s x 96 ho H 117 i0 _ 4 32 underlying96 hi ou mL mh rfl (by decide) _ 0 [] hs gG ad n cap (t.flatMap jY) hx (by rw[iY,hn]) (hL.flat (aR _ _)) (fun u hu=>kA hu) (by unfold maxLen;omega) (by omega) hH ?_;intro v' w' jF hg Sc;rw[fo,dD]at jF;obtain⟨g,c,hv,oP,Cp⟩:=Own.pS jF (by intro e;have:=(Sc.1 e).1;cases this) hn;rw[hv,<- hn];exact h g c w' Cp oP ((aR H W).grown hg hH (fun k hk=>by simp[Value.ownBlock]at hk;omega))
def Rows(w:aw)(aS:aE)(v:az)(l:aB Lk):Prop:=w.ownsRow aS 117 4 v l.length (l.flatMap jY)
theorem Rows.nil(w:aw)(aS:aE):Rows w aS (ah aN 0 0) []:=kK _ _ _ _
theorem Rows.mono{base':aE}(h:Rows w aS v l)(hb:base'<=aS):Rows w base' v l:=by refine⟨h.1,h.2.imp id ?_⟩;rintro⟨g,cap,eI,e,hg,r⟩;exact⟨g,cap,eI,e,bc hb hg,r⟩
theorem Rows.below(h:Rows w aS v l)(hb:au w w w'):Rows w' aS v l:=by
 refine⟨h.1,h.2.imp id ?_⟩;rintro⟨g,cap,eI,e,hg,hh,r⟩;have gm:g<w.heap.size:=by
  rcases gR g w with h'|h'
  ·exact h'
  ·rw[il h']at hh;cases hh
 exact⟨g,cap,eI,e,hg,by rw[hb.block g gm];exact hh,r⟩
theorem Rows.form(h:Rows w aS v l):∃ p c,v=ah p l.length c/\bI w p l/\l.length<=c/\(p=aN->c=0):=by
 by_cases hv:v=ah aN 0 0
 ·have hl:l=[]:=by
   obtain⟨h1,⟨_,h2⟩|⟨g,cap,eI,yE,_⟩⟩:=h
   ·exact bX h2
   ·rw[yE]at hv;cases hv
  subst hl;exact⟨aN,0,hv,bI.nil _ _,aV _,fun _=>rfl⟩
 ·obtain⟨g,c,e,_,ho⟩:=Own.pS h hv rfl
  exact⟨_,c,e,ho.anO,ho.len,fun h=>by cases h⟩
theorem lK(W:aw)(y:Lk)(H:aE)(hH:H=W):∀ j u,(jY y)[j]?=aO u->(W.alloc (aM #[aa ag y.o,aa ag y.f,aa ag y.t,aq y.a] 117)).cell? ((⟨H,0,aN⟩:aJ).add j)=aO u:=by
 subst hH;intro j u h;have hj:=sa h;obtain rfl|rfl|rfl|rfl:j=0\/j=1\/j=2\/j=3:=by omega
 all_goals (simp[jY]at h;subst h;rw[dG];simp)
def iq(l:aB Lk)(w:aw)(e:Ending)(w':aw):Prop:=(∃ v,e=aK v/\Rows w' w v l)/\au w w w'
theorem gS{ops:Array Oper}{rest:aB Oper}{o:Oper}{a:Act}{Q:Exit->Act->aw->Prop}(X:aw)(y:Lk)(ly:o.guard=aN)(s x:Operand)(ho:o.op=.call { callee:=.builtin .append,args:=#[s,x],argTypes:=#[96,96] })(aS:aE)(v:az)(l:aB Lk)(hs:a.eval s=v)(jF:Rows X aS v l)(hlen:(l.length+1)*32<=140737488355328)(eD:aS<=X)(H:aE)(hH:H=X)(hx:a.eval x=ah (aO H) 1 1)(h:∀ v' w',Rows w' aS v' (l++[y])->au aS X w'->(∀ ad:aJ,ad.block<X->(∀ g,v.ownBlock=aO g->ad.block≠g)->w'.cell? ad=X.cell? ad)->X.heap.size<=w'.heap.size->wpList aP ops Q rest (a.put o.dst v') w'):wpList aP ops Q (o::rest) a (X.alloc (aM #[aa ag y.o, aa ag y.f, aa ag y.t, aq y.a] 117)):=by
 obtain⟨i0,hi,ou,mL,mh⟩:=Nz;refine dP _ ly s x 96 ho aS 117 i0 _ 4 32 underlying96 hi ou mL mh rfl (by decide) _ _ _ hs (qD jF _) _ 1 1 (jY y) hx rfl (lK _ _ _ hH) (fun u hu=>kA (t:=[y]) (by simpa using hu)) (by unfold maxLen;omega) (by omega) (by simp;omega) ?_;intro v' w' gG gN _;have iL:X.heap.size<=w'.heap.size:=by have:=gN.size;simp at this;omega
 refine h v' w' (by simpa[Rows]using gG) (((aR aS X).alloc eD _).grown gN (by simp;omega) (fun j hj=>(gQ jF j hj).1)) (fun ad had hne=>?_) iL;have h1:w'.cell? ad=(X.alloc (aM #[aa ag y.o, aa ag y.f, aa ag y.t, aq y.a] 117)).cell? ad:=ji (gN.block _ (by simp;omega) (fun e=>hne _ e.symm rfl));rw[h1];exact((Grown.refl X).alloc _).cell had
theorem AB(w:aw)(cs:Array az)(cap:aE)(l:aB Lk)(hs:cs.size=cap*4)(hl:l.length<=cap)(hm:cap<=maxLen)(hc:∀ (k:aE) (v:az),(l.flatMap jY)[k]?=aO v->cs[k]?=aO v):Own (w.alloc (aM cs 117)) w cap l:=
 ⟨cs,(by show(w.heap.push _)[w.heap.size]?=_;simp),hs,hl,hm,fun j e he i v hv=>hc _ v (yY he hv)⟩
theorem NR{o2:Obj}(h:au (w.heap.size+1) (w.alloc o) W):au (w.heap.size+1) (w.alloc o) (W.alloc o2):=h.alloc (by have:=h.size;simpa using this) _
end Go.Proofs.YtjnkfelecopbjaaGreatDoor.LK
