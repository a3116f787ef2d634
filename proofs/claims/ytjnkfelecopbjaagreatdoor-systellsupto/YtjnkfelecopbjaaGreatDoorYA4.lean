import Derived.Test.YtjnkfelecopbjaaGreatDoorYA3
open Go renaming Aside->ax,Value->az
open _root_ renaming ByteArray->aA,List->aB,Option->aC,UInt8->aD,Nat->aE,Int->aF,absurd->aG
open Bool renaming false->aH,true->aI
open Option renaming none->aN,some->aO
set_option linter.all false
set_option maxHeartbeats 4000000
set_option maxRecDepth 100000
namespace Go.Proofs.YtjnkfelecopbjaaGreatDoor
open Go.RowKit PM Go.Sort
variable{aS:aE}{e y:bP}{f:aB aD}{l t:aB bP}{w:World}
def Lay.v(x:Lay):az:=.slice x.ad x.es.length x.cap
theorem Xn:∃ i0,Tryz.prog.info? 23=aO i0/\i0.zero=aO (.slice aN 0 0)/\i0.size=1/\i0.bytes=24:=by
 have h:(Tryz.prog.info? 23).map (fun i=>(i.zero,i.size,i.bytes))=aO (aO (.slice aN 0 0),1,24):=by kernel_rfl
 cases hi:Tryz.prog.info? 23 with
 | none=>rw[hi]at h;cases h
 | some i0 =>rw[hi]at h;simp only[dF,dt,jX]at h;exact⟨i0,rfl,h.1,h.2.1,h.2.2⟩
def gC(w:World)(aS:aE)(v:az)(ls:aB Lay):Prop:=w.ownsRow aS 23 1 v ls.length (ls.map Lay.v)
theorem gC.alloc{v:az}{ls:aB Lay}(h:gC w aS v ls)(o:Obj):gC (w.alloc o) aS v ls:=qD h o
theorem gC.form{v:az}{ls:aB Lay}(h:gC w aS v ls):∃ p c,v=.slice p ls.length c/\gj w p ls:=by
 obtain⟨h1,⟨h2,h3⟩|⟨g,cap,eI,yE,hg,hh,C6,hm,hs,ht⟩⟩:=h
 ·have:ls=[]:=bX h3
  subst this;exact⟨aN,0,h2,.inl rfl⟩
 ·refine⟨aO ⟨g,0,aN⟩,cap,yE,.inr ⟨g,0,rfl,?_,fun j x hx=>?_⟩⟩
  ·rcases gR g w with h'|h'
   ·exact h'
   ·rw[il h']at hh;cases hh
  ·have hj:=(aQ.1 hx).1
   have h0:(ls.map Lay.v)[j]?=aO x.v:=by rw[cD,hx];rfl
   rw[<- ht,dm]at h0;split at h0
   ·simp only[World.cell?,hh]
    simpa[Lay.v]using h0
   ·cases h0
theorem AR{ops:Array Oper}{rest:aB Oper}{o:Oper}{a:Act}{Q:Exit->Act->World->Prop}(X:World)(ly:o.guard=aN)(s x:Operand)(ho:o.op=.call { callee:=.builtin .append,args:=#[s,x],argTypes:=#[24,24] })(aS:aE)(v:az)(l:aB Lay)(hs:a.eval s=v)(jF:gC X aS v l)(hlen:l.length<=80)(eD:aS<=X)(p:aC Addr)(n cap:aE)(t:aB Lay)(hx:a.eval x=.slice p n cap)(hn:n=t.length)(hL:t=[]\/∃ ad,p=aO ad/\∀ j y,t[j]?=aO y->X.cell? (ad.add j)=aO y.v)(iR:p=aN->cap=0)(oq:n<=80)(h:∀ v' w',gC w' aS v' (l++t)->Below aS X w'->wpList Tryz.prog ops Q rest (a.put o.dst v') w'):wpList Tryz.prog ops Q (o::rest) a X:=by
 obtain⟨i0,hi,ou,mL,mh⟩:=Xn;cases p with
 | none=>
  obtain rfl:cap=0:=iR rfl;have ht:t=[]:=by
   rcases hL with h|⟨ad,he,_⟩
   ·exact h
   ·cases he
  subst ht;obtain rfl:n=0:=hn;refine wpList_append_own_none ly s x 24 ho aS 23 i0 1 Tryz.underlying24 hi v l.length (l.map Lay.v) hs jF hx ?_;exact h v X (by rw[fj];exact jF) (aR _ _)
 | some ad=>
  refine dP X ly s x 24 ho aS 23 i0 _ 1 24 Tryz.underlying24 hi ou mL mh rfl (by decide) v l.length (l.map Lay.v) hs jF ad n cap (t.map Lay.v) hx (by rw[bQ,hn];omega) (fun j u hu=>?_) (fun u hu=>?_) (by unfold maxLen;omega) (by omega) eD ?_
  ·rw[cD]at hu
   obtain⟨y,hy,rfl⟩:=dM.1 hu;rcases hL with h|⟨ad',he,hc⟩
   ·rw[h]at hy;simp at hy
   ·cases he
    exact hc j y hy
  ·obtain⟨y,_,rfl⟩:=fT.1 hu
   rfl
  ·intro v' w' gG hg _
   refine h v' w' ?_ ((aR aS X).grown hg eD (fun j hj=>(gQ jF j hj).1));unfold gC;rw[cJ,fk,<- hn];exact gG
theorem gj.bB{W:World}{p:aC Addr}{ls:aB Lay}(h:gj w p ls)(hB:Below w w W):gj W p ls:=by
 rcases h with h|⟨b,off,hp,hb,hc⟩
 ·exact .inl h
 ·exact .inr ⟨b,off,hp,aZ hb hB.size,fun j x hx=>(hB.cell (p:=⟨b,off+j,aN⟩) hb).trans (hc j x hx)⟩
def jd(t:aB bP)(q:aB aD):aB (aB aD):=(t.filter fun e=>decide (bU e.p=q)).map fun e=>(kd e.p).2
def l7(t:aB bP)(q:aB aD):aB (aB aD) × aF:=if eL t q=0 then(jd t q,0)else([],eL t q)
theorem ui{k:aE}{q:aB aD}(hy:t[k]?=aO y):jd (t.take (k+1)) q=jd (t.take k) q++(if bU y.p=q then[(kd y.p).2]else[]):=by rw[gi hy];unfold jd;rw[eu,fk];by_cases h:bU y.p=q<;>simp[h]
theorem On(s:aA)(w:World)(hs:s.size<4611686018427387904):Calls Tryz.prog 136 #[.string s] w fun e w'=>(∃ d n:aA,e=.returned (.tuple #[.string d,.string n])/\d.data.toList=(kd s).1/\n.data.toList=(kd s).2)/\Grown w w':=
 (Cf s w hs).mono fun e w' ⟨h,n,hw⟩=>⟨h,by rw[hw];exact(Grown.refl w).drewN n⟩
theorem vz{wr w3 w1:World}{o:Obj}{r:aC aE}(hB:Below aS w wr)(hb:aS<=wr)(hG:Grown (wr.alloc o) w3)(o2:Obj)(hg:(w3.alloc o2).grownBy w1 r)(hr:∀ k,r=aO k->aS<=k):Below aS w w1:=by have h1:Below aS w w3:=(hB.alloc hb o).trans (hG.below.mono (by simp;omega));have h3:=hG.size;simp at h3;exact(h1.alloc (by omega) o2).grown hg (by simp;omega) hr
theorem CN(d q:aA):((d.toList == q.toList)=aI/\ax (d.data.toList=q.data.toList))\/((d.toList == q.toList)=aH/\ax (¬ d.data.toList=q.data.toList)):=by
 by_cases h:d.data.toList=q.data.toList
 ·exact .inl ⟨(kZ h).1,h⟩
 ·exact .inr ⟨(j8 h).1,h⟩
theorem I9(t:aB bP)(q:aA)(p:aC Addr)(cap:aE)(w:World)(hL:bI w p t)(hF:anM t)(hr:du aH t)(hq:q.size<=maxLen):Calls Tryz.prog 85 #[.slice p t.length cap,.string q] w (eW w (l7 t q).1 (l7 t q).2):=by
 have rE:=hr.len;have En:=Fi t q p cap w hL hF (by omega) hq;have HR:ax (du aH t):=hr;have HL:ax (bI w p t):=hL;have HLL:ax (l7 t q.data.toList=if eL t q.data.toList=0 then(jd t q.data.toList,0)else([],eL t q)):=rfl;obtain⟨i0,hi,ou,mL,mh⟩:=E7;obtain⟨n,eK⟩:=ee t.length
 have HN:ax (n=t.length):=eK;rw[<- eK]at En rE ⊢;clear eK hr hL hF;go_enter Tryz.func85,Tryz.ntmps85;go_wp2_with (go_at_call 135;refine En.mono ?_;clear En;rintro e w1 ⟨r,rfl,hrr,hB⟩;have HD:ax (r=eL t q):=hrr HR.anF;clear hrr;by_cases Qy:r=0)
 ·subst Qy
  go_loopg [7,20] n (fun gg v i wr=>∃ (k:aE) (bs:aB aA),k<=n/\n-k<=gg/\i=.int .i64 k/\bs.length<=k/\ax (jE wr w v bs)/\ax (Below w w wr)/\ax (bs.map (·.data.toList)=jd (t.take k) q.data.toList))
  case atStart=>exact⟨0,[],bF _,by omega,rfl,aV _,jE.nil _ _,hB,by simp[jd,ax]⟩
  case round=>
   obtain⟨k,bs,hk,oP,rfl,xV,ST,BW,NM⟩:=hrel;by_cases gm:k<n
   ·have eN:(k:aF)<(n:aF):=by omega
    obtain⟨y,hy⟩:∃ y,t[k]?=aO y:=⟨_,aU (by have:=HN.out;omega)⟩
    have HY:ax (t[k]?=aO y):=hy;have qg:=fG (HR.anI (bw hy));rcases HL.out with h0|⟨b,off,rfl,hb,hc⟩
    ·rw[h0]at hy;simp at hy
    obtain⟨c0,c1,c2,c3⟩:=bI.cells hc hb BW.out hy;clear hc hy;have oF:=fun W=>On y.bm W (by omega)
    go_wp2_with (first
     | (go_at_call 136;refine(oF _).mono ?_;clear oF;rintro e w3 ⟨⟨d,nm,rfl,hd,xG⟩,hG⟩;have XE:ax (d.data.toList=bU y.p/\nm.data.toList=(kd y.p).2):=⟨hd,xG⟩;clear hd xG;have CZ:w3.ownsRow w 9 1 u7 bs.length (bs.map Value.string):=ST.below (((Grown.refl wr).alloc _).trans hG).below;rcases CN d q with⟨hdq,XF⟩|⟨hdq,XF⟩)
     | (at_builtin;refine dP _ rfl _ _ 36 rfl w 9 i0 (.string ByteArray.empty) 1 16 Tryz.underlying36 hi ou mL mh rfl (by decide) _ _ _ rfl (CZ.alloc _) ⟨w3,0,aN⟩ 1 1 [.string nm] rfl rfl ?c1 ?c2 ?c3 ?c4 ?c5 ?_))
    case c1=>exact og _ _ _
    case c2=>intro u hu;simp at hu;subst hu;rfl
    case c3=>unfold maxLen;omega
    case c4=>omega
    case c5=>have:=hG.size;have:=BW.size;simp at *;omega
    ·intro v' w4 gG gN _
     have kT:ax (Below w w w4):=vz BW.out BW.size hG _ gN (fun j hj=>(CZ.lt j hj).1);have HS4:ax (jE w4 w v' (bs++[nm])):=by simpa[jE,ax]using gG
     clear gG gN;go_wp2;go_roundg (n-(k+1))
     case measure=>omega
     case rel=>exact⟨k+1,bs++[nm],by omega,by omega,by go_num,by simp;omega,HS4.out,kT.out,by
       show _=_;rw[ui HY.out,aY (XE.1.symm.trans XF.out),<- NM.out,<- XE.2];simp⟩
    ·go_roundg (n-(k+1))
     case measure=>omega
     case rel=>exact⟨k+1,bs,by omega,by omega,by go_num,by omega,CZ,(BW.alloc BW.size _).trans (hG.below.mono (by have:=BW.size;simp;omega)),by
       show _=_;rw[ui HY.out,aW (fun h=>XF.out (XE.1.trans h)),NM.out];simp⟩
   ·have eN:¬ (k:aF)<(n:aF):=by omega
    have HE:ax (l7 t q.data.toList=(bs.map (·.data.toList),0)):=by show _=_;rw[HLL.out,aY HD.symm,NM.out,cz (by have:=HN.out;omega)]
    go_wp2;go_ret2;exact eW.mk HE.out rfl rfl ST.out rfl BW.out
 ·have HE:ax (l7 t q.data.toList=([],r)):=by show _=_;rw[HLL.out,aW (by rw[<- HD.out];exact Qy),HD.out]
  go_ret2;exact eW.mk HE.out rfl rfl (jE.nil _ _) rfl hB
theorem Jm{m:aB bP}(hp:l.Perm m)(hd:m.Pairwise fun a b=>a.p≠b.p)(hs:l.Pairwise fun a b=>¬ cmp b.p a.p<0):b7 l:=by
 have DV:l.Pairwise fun a b=>a.p≠b.p:=(hp.pairwise_iff (fun h=>h.symm)).2 hd
 refine(DV.and hs).imp ?_;rintro a b ⟨h1,h2⟩;exact CJ h2 (fun e=>h1 e.symm)
theorem acA(bS anW:aA)(e:bP):(ma bS anW e).p=anW.data.toList++e.p.drop bS.data.toList.length:=by show(anW++e.bm.extract bS.size e.bm.size).data.toList=_;rw[data_append,yz,ix];rfl
theorem qh(hf:f≠[])(h:jC f e=aI):∃ r,e.p=f++r/\(r=[]\/∃ s,r=47::s):=by
 unfold jC at h;rcases jx.1 h with h|h
 ·exact⟨[],by simpa using dE h,.inl rfl⟩
 ·obtain⟨r,hr⟩:=(eB _ _ hf).1 h
  exact⟨47::r,hr,.inr ⟨r,rfl⟩⟩
theorem SI(hf:f≠[]){r:aB aD}(h:e.p=f++r)(hr:r=[]\/∃ s,r=47::s):jC f e=aI:=by
 unfold jC;rcases hr with rfl|⟨s,rfl⟩
 ·simp[h]
 ·rw[(eB _ _ hf).2 ⟨s,h⟩];simp
theorem Pm(h:jC f e=aH):e.p≠f/\anG e.p f=aH:=by unfold jC at h;have:=mj.1 h;exact⟨gw this.1,this.2⟩
theorem oR{bS anW:aA}{r:aB aD}(h:e.p=bS.data.toList++r):(ma bS anW e).p=anW.data.toList++r:=by rw[acA,h,List.drop_left'];rfl
theorem JS{a b c:aB aD}(hb:b≠[])(hc:c≠[])(h1:anG a b=aI)(h2:anG b c=aI):anG a c=aI:=by obtain⟨r,rfl⟩:=(eB _ _ hb).1 h1;obtain⟨s,rfl⟩:=(eB _ _ hc).1 h2;exact(eB _ _ hc).2 ⟨s++47::r,by simp⟩
structure tQ (t:aB bP) (bS anW:aA):Prop where
 right:du aH t
 src:∃ a∈t,a.p=bS.data.toList
 Wp:anI anW.data.toList=aI
 ne:bS.data.toList≠anW.data.toList
 S6:anG anW bS.data.toList=aH
 dir:bU anW.data.toList=[]\/∃ d∈t,d.p=bU anW.data.toList/\d.bE=2
 free:∀ x∈t,anG x.p anW.data.toList=aH
 cl:∀ x∈t,x.p≠anW.data.toList->jC bS x=aI->anI (ma bS anW x).p=aI
section
variable {t:aB bP}{bS anW:aA}(h:tQ t bS anW)
include h
theorem tQ.Af:bS.data.toList≠[]:=by obtain⟨a,ha,hp⟩:=h.src;rw[<- hp];exact h.right.ne ha
theorem tQ.Qc:anW.data.toList≠[]:=gM h.Wp
theorem tQ.inj{x:bP}(hx:x∈t)(hy:y∈t)(hxT:x.p≠anW.data.toList)(hyT:y.p≠anW.data.toList)(hne:x.p≠y.p):(D4 bS anW x).p≠(D4 bS anW y).p:=by
 have key:∀ {x y:bP},jC bS x=aI->y∈t->y.p≠anW.data.toList->(ma bS anW x).p≠y.p:=by
  intro x y hx hy hyT e;obtain⟨r,hr,Xg⟩:=qh h.Af hx;rw[oR hr]at e;rcases Xg with rfl|⟨s,rfl⟩
  ·exact hyT (by rw[<- e];simp)
  ·have:=h.free y hy
   rw[(eB _ _ h.Qc).2 ⟨s,e.symm⟩]at this;cases this
 unfold D4;cases h1:jC bS x<;>cases h2:jC bS y<;>simp only[mU,pk,dI]
 ·exact hne
 ·exact fun e=>key h2 hx hxT e.symm
 ·exact key h1 hy hyT
 ·obtain⟨r,hr,_⟩:=qh h.Af h1
  obtain⟨s,hs,_⟩:=qh h.Af h2;rw[oR hr,oR hs];intro e;rw[ZJ e]at hr;exact hne (hr.trans hs.symm)
theorem tQ.distinct:(gO t bS anW).Pairwise fun a b=>a.p≠b.p:=by
 unfold gO;rw[Ko];have h1:(pq t anW).Pairwise fun a b=>a.p≠b.p:=(wh h.right.anF _).imp fun hh=>pR hh
 refine h1.imp_of_mem fun{a b} ha hb C0=>?_
 exact h.inj (jJ.1 ha).1 (jJ.1 hb).1 (jJ.1 ha).2 (jJ.1 hb).2 C0
theorem tQ.mem(hp:l.Perm (gO t bS anW)){x:bP}:x∈l↔∃ y∈t,y.p≠anW.data.toList/\D4 bS anW y=x:=by
 have _:=h.Af;rw[hp.mem_iff];unfold gO;simp only[fT,jJ];constructor
 ·rintro⟨y,⟨h1,h2⟩,h3⟩;exact⟨y,h1,h2,h3⟩
 ·rintro⟨y,h1,h2,h3⟩;exact⟨y,⟨h1,h2⟩,h3⟩
theorem tQ.stays(hp:l.Perm (gO t bS anW))(hy:y∈t)(hT:y.p≠anW.data.toList)(hi:jC bS y=aH):y∈l:=(h.mem hp).2 ⟨y,hy,hT,by rw[D4,hi];rfl⟩
theorem tQ.goes(hp:l.Perm (gO t bS anW))(hy:y∈t)(hi:jC bS y=aI):ma bS anW y∈l:=by
 refine(h.mem hp).2 ⟨y,hy,fun e=>?_,by rw[D4,hi];rfl⟩;obtain⟨r,hr,Xg⟩:=qh h.Af hi;rcases Xg with rfl|⟨s,rfl⟩
 ·exact h.ne (by rw[<- e,hr];simp)
 ·have:=h.S6
  rw[(eB _ _ h.Af).2 ⟨s,by rw[<- e,hr]⟩]at this;cases this
theorem tQ.Mm(hp:l.Perm (gO t bS anW))(hs:l.Pairwise fun a b=>¬ cmp b.p a.p<0):du aH l:=by
 refine⟨?_,fun x hx=>?_,Jm hp h.distinct hs,fun x hx=>?_⟩
 ·rw[hp.length_eq,gO,bQ]
  exact bc (ed _ _) h.right.len
 ·obtain⟨y,hy,hT,rfl⟩:=(h.mem hp).1 hx
  unfold D4;split
  ·rename_i hi;exact BD (h.right.each y hy) rfl rfl rfl (h.cl y hy hT hi)
  ·exact h.right.each y hy
 ·obtain⟨y,hy,hT,rfl⟩:=(h.mem hp).1 hx
  cases hi:jC bS y with
  | false=>
   have e1:D4 bS anW y=y:=by rw[D4,hi];rfl
   rw[e1];rcases h.right.dir y hy with hd|⟨d,hd,mZ,uH⟩
   ·exact .inl hd
   ·by_cases DW:bU y.p=[]
    ·exact .inl DW
    have hu:=jz (h.right.ne hy) DW;refine .inr ⟨d,h.stays hp hd (fun e=>?_) ?_,mZ,uH⟩
    ·have:=h.free y hy
     rw[<- e,mZ,hu]at this;cases this
    ·cases Vz:jC bS d with
     | false=>rfl
     | true=>
      have hyu:anG y.p bS.data.toList=aI:=by
       unfold jC at Vz;rcases jx.1 Vz with g|g
       ·rw[<- dE g,mZ];exact hu
       ·rw[mZ]at g;exact JS DW h.Af hu g
      rw[(Pm hi).2]at hyu;cases hyu
  | true=>
   have e1:D4 bS anW y=ma bS anW y:=by rw[D4,hi];rfl
   rw[e1];obtain⟨r,hr,Xg⟩:=qh h.Af hi;rw[oR hr];rcases Xg with rfl|⟨s,rfl⟩
   ·rw[fj]
    rcases h.dir with hd|⟨d,hd,mZ,uH⟩
    ·exact .inl hd
    ·by_cases DW:bU anW.data.toList=[]
     ·exact .inl DW
     have hu:=jz h.Qc DW;refine .inr ⟨d,h.stays hp hd (fun e=>?_) ?_,mZ,uH⟩
     ·have:=eY h.Qc;rw[<- mZ,e]at this;omega
     ·cases Vz:jC bS d with
      | false=>rfl
      | true=>
       have:anG anW bS.data.toList=aI:=by
        unfold jC at Vz;rcases jx.1 Vz with g|g
        ·rw[<- dE g,mZ];exact hu
        ·rw[mZ]at g;exact JS DW h.Af hu g
       rw[h.S6]at this;cases this
   ·have Yv:∃ a,bU y.p=bS.data.toList++a/\bU (anW.data.toList++47::s)=anW.data.toList++a/\(a=[]\/∃ b,a=47::b):=by
     rw[hr];rcases nT s with hf|⟨a,b,rfl,hb⟩
     ·exact⟨[],by rw[bU,iC _ s hf];simp,by rw[bU,iC _ s hf];simp,.inl rfl⟩
     ·refine⟨47::a,?_,?_,.inr ⟨a,rfl⟩⟩
      ·rw[bU,show bS.data.toList++47::(a++47::b)=(bS.data.toList++47::a)++47::b by simp,iC _ b hb]
      ·rw[bU,show anW.data.toList++47::(a++47::b)=(anW.data.toList++47::a)++47::b by simp,iC _ b hb]
    obtain⟨a,F4,BO,RS⟩:=Yv;rcases h.right.dir y hy with hd|⟨d,hd,mZ,uH⟩
    ·rw[hd]at F4
     have:=congrArg List.length F4;have h0:=h.Af;cases R7:bS.data.toList with
     | nil=>exact aG R7 h0
     | cons=>rw[R7]at this;simp at this
    ·have Vz:jC bS d=aI:=SI h.Af (mZ.trans F4) RS
     exact .inr ⟨ma bS anW d,h.goes hp hd Vz,by rw[oR (mZ.trans F4),BO],uH⟩
theorem tQ.S5:anG bS anW.data.toList=aH:=by obtain⟨a,ha,hp⟩:=h.src;rw[<- hp];exact h.free a ha
end
theorem wQ{bS anW:aA}(h0:ez t bS anW=0)(hne:bS.data.toList≠anW.data.toList):tQ t bS anW:=by
 unfold ez at h0;split at h0
 ·rename_i ha
  obtain⟨hr,Pf⟩:=zm ha;split at h0
  ·rename_i hc
   split at h0
   ·cases h0
   ·rename_i hu
    have hu':anG anW bS.data.toList=aH:=by simpa using hu
    split at h0
    ·rename_i BO
     split at h0
     ·cases h0
     ·rename_i hb
      unfold qk at BO;obtain⟨En,hx⟩:=nM.1 BO;obtain⟨Nu,_⟩:=nM.1 hx;refine⟨hr,Pf,hc,hne,hu',?_,?_,?_⟩
      ·rcases oy.1 En with g|⟨d,h1,h2,h3,_⟩
       ·exact .inl g
       ·exact .inr ⟨d,h1,h2,h3⟩
      ·intro x hx
       cases hux:anG x.p anW with
       | false=>rfl
       | true=>
        obtain⟨d,hd,mZ,_⟩:=hr.below (gM hc) x.p.length (aV _) hx hux;have hg:=kW hr.anF hd (hr.ne hd);rw[mZ]at hg;unfold uN at Nu;rw[hg]at Nu;simp only at Nu;split at Nu
        ·cases Nu
        ·split at Nu
         ·cases Nu
         ·unfold qc at Nu
          rw[aY (dy.2 ⟨x,hx,hux⟩)]at Nu;cases Nu
      ·intro x hx hT hi
       cases mz:anI (ma bS anW x).p with
       | true=>rfl
       | false=>exact aG (Q0 (jJ.2 ⟨hx,hT⟩) hi mz) (by unfold pY at hb;exact hb)
    ·rename_i BO;exact aG h0 BO
  ·cases h0
 ·rename_i ha;exact aG h0 ha
theorem Mn(h:du aH t):anM t:=fun e he=>by
 have hw:=h.each e he;have h1:=fG (dX hw);have h2:e.text.size<=100:=by
  unfold dv at hw;split at hw
  ·cases hw
  ·split at hw
   ·cases hw
   ·split at hw
    ·cases hw
    ·omega
 unfold maxLen;omega
end Go.Proofs.YtjnkfelecopbjaaGreatDoor
namespace Go.Proofs.YtjnkfelecopbjaaGreatDoor.PM
variable{B own t:aB bP}{b:Bool}{e x:bP}{p q:aB aD}
theorem anJ.ne(h:anJ b t)(he:e∈t):e.p≠[]:=gM (dX (h.each e he))
theorem du.good(h:du b t):anJ b t:=⟨h.each,h.anF,h.dir⟩
theorem anJ.right(h:anJ b t)(hl:t.length<=80):du b t:=⟨hl,h.each,h.anF,h.dir⟩
theorem nk{a b:aB aD}(h:anG a b=aI)(hb:b≠[]):b.length<a.length:=by obtain⟨r,rfl⟩:=(eB _ _ hb).1 h;simp
theorem TY{a b:aB aD}(hb:b≠[])(h:anG a b=aI):a≠b:=by rintro rfl;have:=nk h hb;omega
theorem anJ.below(h:anJ b t)(hp:p≠[]):∀ (n:aE) {e:bP},e.p.length<=n->e∈t->anG e.p p=aI->∃ d∈t,d.p=p/\d.bE=2:=by
 intro n;induction n with
 | zero=>intro e hn he _;exact aG (dr.1 (by omega)) (h.ne he)
 | succ n ih=>
  intro e hn he hu;have hd:∃ d∈t,d.p=bU e.p/\d.bE=2:=by
   rcases h.dir e he with hd|hd
   ·rcases ru hp hu with g|g
    ·exact aG (g.symm.trans hd) hp
    ·obtain⟨r,e'⟩:=(eB _ _ hp).1 g
     rw[hd]at e';simp at e'
   ·exact hd
  obtain⟨d,VA,mZ,uH⟩:=hd;rcases ru hp hu with g|g
  ·exact⟨d,VA,mZ.trans g,uH⟩
  ·exact ih (by rw[mZ];have:=eY (h.ne he);omega) VA (by rw[mZ];exact g)
theorem Vj{a b:aB bP}(ha:b7 a)(hb:b7 b)(na:∀ e∈a,e.p≠[])(nb:∀ e∈b,e.p≠[])(h:∀ q,q≠[]->bW a q=bW b q):a=b:=by
 refine oc ha hb fun x=>⟨fun hx=>?_,fun hx=>?_⟩
 ·have h1:=kW ha hx (na x hx)
  rw[h _ (na x hx)]at h1;exact(dK (na x hx) h1).1
 ·have h1:=kW hb hx (nb x hx)
  rw[<- h _ (nb x hx)]at h1;exact(dK (nb x hx) h1).1
theorem mJ(hs:b7 t){y:bP}(hy:y∈t)(hp:y.p=q)(hq:q≠[]):bW t q=aO y:=by subst hp;exact kW hs hy hq
theorem Ng(hs:b7 t)(hq:q≠[]):bW (kM t e) q=if q=e.p then aO e else bW t q:=by
 by_cases h:q=e.p
 ·rw[aY h];exact mJ (iw hs e) (jo.2 (.inl rfl)) h.symm hq
 ·rw[aW h]
  cases hg:bW t q with
  | none=>
   refine eV hq fun x hx hp=>?_
   rcases jo.1 hx with rfl|⟨hx,_⟩
   ·exact h hp.symm
   ·exact(gU hg).2 x hx hp
  | some y =>obtain⟨hy,hp⟩:=dK hq hg;exact mJ (iw hs e) (jo.2 (.inr ⟨hy,by rw[hp];exact h⟩)) hp hq
theorem get_filter{f:bP->Bool}(hs:b7 t)(hq:q≠[])(hf:∀ y∈t,y.p=q->f y=aI):bW (t.filter f) q=bW t q:=by
 cases hg:bW t q with
 | none=>exact eV hq fun x hx=>(gU hg).2 x (dS.1 hx).1
 | some y =>obtain⟨hy,hp⟩:=dK hq hg;exact mJ (dY _ hs) (dS.2 ⟨hy,hf y hy hp⟩) hp hq
/-! what is bA at a bm -/
def kp(B own:aB bP)(q:aB aD):aC bP:=
 match bW own q with
 | some y=>if y.bE=4 then aN else aO (kX y)
 | none=>if fM own q then aN else bW B q
theorem sW{l:aB bP}(hl:b7 l)(ht:b7 t)(hq:q≠[]):bW (lq l t) q=kp t l q:=by
 unfold kp;cases hg:bW l q with
 | some y=>
  obtain⟨hy,hp⟩:=dK hq hg;by_cases hk:y.bE=4
  ·simp only[aY hk]
   refine eV hq fun x hx he=>?_
   rcases(j6 hl ht).1 hx with hx|hx
   ·obtain⟨z,hz,He,rfl⟩:=j7.1 hx
    have:=rL hl hz hy (he.trans hp.symm);subst this;exact He hk
   ·exact(gU (jU.1 hx).2.1).2 y hy (hp.trans he.symm)
  ·simp only[aW hk]
   exact mJ (mO hl ht) ((j6 hl ht).2 (.inl (j7.2 ⟨y,hy,hk,rfl⟩))) hp hq
 | none=>
  have hn:=(gU hg).2;cases hh:fM l q with
  | true=>
   simp only[mU];refine eV hq fun x hx he=>?_
   rcases(j6 hl ht).1 hx with hx|hx
   ·obtain⟨z,hz,_,rfl⟩:=j7.1 hx
    exact hn z hz he
   ·have:=(jU.1 hx).2.2
    rw[he,hh]at this;cases this
  | false=>
   simp only[dI,pk];cases mK:bW t q with
   | none=>
    refine eV hq fun x hx he=>?_
    rcases(j6 hl ht).1 hx with hx|hx
    ·obtain⟨z,hz,_,rfl⟩:=j7.1 hx
     exact hn z hz he
    ·exact(gU mK).2 x (jU.1 hx).1 he
   | some z =>obtain⟨hz,hp⟩:=dK hq mK;exact mJ (mO hl ht) ((j6 hl ht).2 (.inr (jU.2 ⟨hz,by rw[hp];exact hg,by rw[hp];exact hh⟩))) hp hq
theorem AA{l:aB bP}(hl:anJ aI l)(ht:du aH t):anJ aH (lq l t):=by
 refine⟨fun e he=>?_,mO hl.anF ht.anF,fun e he=>?_⟩
 ·rcases(j6 hl.anF ht.anF).1 he with he|he
  ·obtain⟨y,hy,hk,rfl⟩:=j7.1 he
   exact zK (hl.each y hy) hk
  ·exact ht.each e (jU.1 he).1
 ·have zv:∀ d∈l,d.bE=2->∃ x∈lq l t,x.p=d.p/\x.bE=2:=fun d hd hk=>
   ⟨kX d,(j6 hl.anF ht.anF).2 (.inl (j7.2 ⟨d,hd,by omega,rfl⟩)),rfl,hk⟩
  rcases(j6 hl.anF ht.anF).1 he with he|he
  ·obtain⟨y,hy,hk,rfl⟩:=j7.1 he
   rcases hl.dir y hy with g|⟨d,hd,hp,j4⟩
   ·exact .inl g
   ·obtain⟨x,h1,h2,h3⟩:=zv d hd j4
    exact .inr ⟨x,h1,h2.trans hp,h3⟩
  ·obtain⟨hm,hg,hh⟩:=jU.1 he
   rcases ht.dir e hm with g|⟨d,hd,hp,j4⟩
   ·exact .inl g
   ·have zQ:d.p≠[]:=ht.ne hd
    have hu:anG e.p d.p=aI:=by rw[hp];exact jz (ht.ne hm) (by rw[<- hp];exact zQ)
    have hno:∀ y∈l,fL e.p y=aH:=fun y hy=>by
     cases hc:fL e.p y with
     | false=>rfl
     | true=>rw[show fM l e.p=aI from dy.2 ⟨y,hy,hc⟩]at hh;cases hh
    cases Sa:bW l d.p with
    | some y=>
     obtain⟨hy,hyp⟩:=dK zQ Sa;have Z9:y.bE=2:=by
      have:=hno y hy;unfold fL at this;rw[hyp,hu]at this;by_cases hk:y.bE=2
      ·exact hk
      ·simp[hk]at this
     obtain⟨x,h1,h2,h3⟩:=zv y hy Z9;exact .inr ⟨x,h1,h2.trans (hyp.trans hp),h3⟩
    | none=>
     refine .inr ⟨d,(j6 hl.anF ht.anF).2 (.inr (jU.2 ⟨hd,Sa,?_⟩)),hp,j4⟩;cases hc:fM l d.p with
     | false=>rfl
     | true =>obtain⟨y,hy,K9⟩:=dy.1 hc;have:=hno y hy;have hyd:¬ y.p=d.p:=(gU Sa).2 y hy;unfold fL at this K9;simp[hyd]at K9;rw[o6 zQ (hl.ne hy) hu K9.1]at this;rcases K9.2 with h|h<;>simp[h]at this
theorem Wh(hO:anJ aI own)(hB:du aH B)(hq:q≠[])(hx:kp B own q=aO x):bU q=[]\/∃ d,kp B own (bU q)=aO d/\d.bE=2:=by
 rw[<- sW hO.anF hB.anF hq]at hx;obtain⟨hm,hp⟩:=dK hq hx;have hG:=AA hO hB;rcases hG.dir x hm with g|⟨d,hd,mZ,hk⟩
 ·exact .inl (by rw[<- hp];exact g)
 ·rw[hp]at mZ
  by_cases h0:bU q=[]
  ·exact .inl h0
  ·refine .inr ⟨d,?_,hk⟩
   rw[<- sW hO.anF hB.anF h0];exact mJ hG.anF hd mZ h0
theorem P3(hO:anJ aI own)(hB:du aH B)(hp:p≠[])(hu:anG q p=aI)(hx:kp B own q=aO x):∃ d,kp B own p=aO d/\d.bE=2:=by
 have hq:q≠[]:=by rintro rfl;have:=nk hu hp;simp at this
 rw[<- sW hO.anF hB.anF hq]at hx;obtain⟨hm,yG⟩:=dK hq hx;have hG:=AA hO hB;obtain⟨d,hd,mZ,hk⟩:=hG.below hp x.p.length (aV _) hm (by rw[yG];exact hu);refine⟨d,?_,hk⟩;rw[<- sW hO.anF hB.anF hp];exact mJ hG.anF hd mZ hp
theorem NK(hs:b7 own){y:bP}(hy:y∈own)(hne:y.p≠[])(hk:¬ y.bE=4):kp B own y.p=aO (kX y):=by unfold kp;rw[kW hs hy hne];simp only[aW hk]
/-! an upper anH has an entry -/
def pD(q:aA)(k:aF):bP:=⟨q,k,⟨#[]⟩,aH⟩
def fU(l:aB aD):aA:=⟨l.toArray⟩
theorem mD(l:aB aD)(k:aF):(pD (fU l) k).p=l:=by simp[pD,fU,bP.p]
def jG(t:aB bP)(q:aB aD):Bool:=match bW t q with|some d=>d.bE == 2|none=>aH
def nG(own:aB bP)(e:bP):bP:=match bW own e.p with|some Zg=>{ e with opq:=e.bE == 2 && (Zg.opq || Zg.bE == 4) } | none=>e
theorem RA(own:aB bP)(e:bP):(nG own e).p=e.p:=by unfold nG;split<;>rfl
theorem Rz(own:aB bP)(e:bP):(nG own e).bE=e.bE:=by unfold nG;split<;>rfl
theorem RB(own:aB bP)(e:bP):(nG own e).text=e.text:=by unfold nG;split<;>rfl
def iW(own:aB bP)(e:bP):aB bP:=kM own (nG own e)
def uG:aE->aB bP->bP->aB bP
 | 0,own,e=>iW own e
 | n+1,own,e=>if jG own (bU e.p)then iW own e else iW (uG n own (pD (fU (bU e.p)) 2)) e
def cZ(own:aB bP)(e:bP):aB bP:=uG e.p.length own e
theorem kL(own:aB bP):jG own []=aI:=by simp[jG,iE,tT]
theorem C1:∀ (n m:aE) (own:aB bP) (e:bP),e.p.length<=n->e.p.length<=m->uG n own e=uG m own e
 | 0,0,_,_,_,_=>rfl
 | 0,m+1,own,e,h,_=>by
  have:e.p=[]:=dr.1 (by omega);have hd:bU e.p=[]:=by rw[this];rfl
  rw[uG,uG,hd,kL,aY rfl]
 | n+1,0,own,e,_,h=>by
  have:e.p=[]:=dr.1 (by omega);have hd:bU e.p=[]:=by rw[this];rfl
  rw[uG,uG,hd,kL,aY rfl]
 | n+1,m+1,own,e,h,g=>by
  rw[uG,uG];by_cases hd:jG own (bU e.p)=aI
  ·rw[aY hd,aY hd]
  ·rw[aW hd,aW hd]
   have hne:e.p≠[]:=by intro h0;apply hd;rw[h0];exact kL own
   have hl:(pD (fU (bU e.p)) 2).p.length<e.p.length:=by rw[mD];exact eY hne
   rw[C1 n m own _ (by omega) (by omega)]
theorem pM(h:jG own (bU e.p)=aI):cZ own e=iW own e:=by
 unfold cZ;cases hn:e.p.length with
 | zero=>rfl
 | succ n=>rw[uG,aY h]
theorem rC(h:¬ jG own (bU e.p)=aI):cZ own e=iW (cZ own (pD (fU (bU e.p)) 2)) e:=by
 have hne:e.p≠[]:=by intro h0;apply h;rw[h0];exact kL own
 have hl:=eY hne;unfold cZ;cases hn:e.p.length with
 | zero=>omega
 | succ n =>rw[uG,aW h,C1 n (pD (fU (bU e.p)) 2).p.length own _ (by rw[mD];omega) (aV _)]
theorem Fw(e:bP)(hs:b7 own):(iW own e).length<=own.length+1:=by unfold iW;rw[sq hs];split<;>omega
theorem uy(e:bP)(hs:b7 own):b7 (iW own e):=iw hs _
theorem qe:∀ (n:aE) {own:aB bP} {e:bP},e.p.length<=n->b7 own->b7 (cZ own e)/\(cZ own e).length<=own.length+e.p.length+1
 | n,own,e,hn,hs=>by
  by_cases h:jG own (bU e.p)=aI
  ·rw[pM h]
   exact⟨uy e hs,by have:=Fw e hs;omega⟩
  ·have hne:e.p≠[]:=by
    intro h0;apply h;rw[h0];exact kL own
   have hl:=eY hne;rw[rC h];cases n with
   | zero=>exact aG (dr.1 (by omega)) hne
   | succ n =>obtain⟨h1,h2⟩:=qe n (own:=own) (e:=pD (fU (bU e.p)) 2) (by rw[mD];omega) hs;rw[mD]at h2;exact⟨uy e h1,by have:=Fw e h1;omega⟩
structure QQ (B own:aB bP) (e:bP) (own':aB bP):Prop where
 good:anJ aI own'
 same:∀ q,q≠[]->q≠e.p->(e.bE=2\/anG q e.p=aH)->kp B own' q=kp B own q
 here:kp B own' e.p=if e.bE=4 then aN else aO e
 anG:¬ e.bE=2->∀ q,anG q e.p=aI->kp B own' q=aN
 there:∃ y∈own',y.p=e.p/\y.bE=e.bE
 mem:∀ x∈own',x∈own\/x.p=e.p\/PM.anG e.p x.p=aI
theorem MX(h:dv e aI=0)(hb:b=aI->e.bE=2):dv { e with opq:=b } aI=0:=by
 have hp:({ e with opq:=b }:bP).p=e.p:=rfl;unfold dv at h ⊢;rw[hp];simp only at h ⊢;split at h
 ·omega
 rename_i c1;rw[aW c1];split at h
 ·omega
 rename_i c2;rw[aW c2];split at h
 ·omega
 rename_i c3;rw[aW c3];split at h
 ·omega
 rename_i c4;rw[aW];intro c;apply c4;cases b with
 | false =>simp only[UK,Xx]at c;rw[c];rfl
 | true =>have hk:=hb rfl;simp[hk]at c ⊢;exact c
theorem yd(hq:q≠[]):jG own q=aI↔∃ d,bW own q=aO d/\d.bE=2:=by
 unfold jG;cases bW own q with
 | none=>simp
 | some d=>simp
theorem JN(hO:anJ aI own)(he:dv e aI=0)(gX:e.opq=aH)(hd:jG own (bU e.p)=aI)(hk:e.bE=2->∀ y,bW own e.p=aO y->y.bE=2\/y.bE=4)(hn:¬ e.bE=2->∀ y∈own,anG y.p e.p=aH):QQ B own e (iW own e):=by
 have hne:e.p≠[]:=gM (dX he);have hs:=hO.anF;have x6:=RA own e;have J6:=Rz own e;have Z5:kX (nG own e)=e:=by
  unfold nG;split
  ·show bP.mk e.bm e.bE e.text aH=e
   rw[<- gX]
  ·exact Oh gX
 have hfw:dv (nG own e) aI=0:=by
  unfold nG;split
  ·exact MX he (fun h=>by simp at h;exact h.1)
  ·exact he
 have qy:∀ x,x∈iW own e↔x=nG own e\/x∈own/\x.p≠e.p:=fun x=>by unfold iW;rw[jo,x6]
 have nY:∀ q,q≠[]->bW (iW own e) q=if q=e.p then aO (nG own e)else bW own q:=fun q hq=>by unfold iW;rw[Ng hs hq,x6]
 have sZ:∀ q,q≠e.p->anG q e.p=aH->∀ z:bP,z.p=e.p->fL q z=aH:=fun q h1 h2 z hz=>by unfold fL;rw[hz,h2];simp[lD h1]
 have afL:∀ q,q≠e.p->(e.bE=2\/anG q e.p=aH)->fM (iW own e) q=fM own q:=fun q h1 h2=>by
  have key:(∀ y∈own,y.p=e.p->fL q (nG own e)=fL q y)/\((∀ y∈own,y.p≠e.p)->fL q (nG own e)=aH):=by
   cases hu:anG q e.p with
   | false=>exact⟨fun y hy hp=>by rw[sZ q h1 hu _ x6,sZ q h1 hu _ hp],fun _=>sZ q h1 hu _ x6⟩
   | true=>
    have j4:e.bE=2:=by
     rcases h2 with h|h
     ·exact h
     ·rw[hu]at h;cases h
    refine⟨fun y hy hp=>?_,fun h=>?_⟩
    ·have hgy:bW own e.p=aO y:=mJ hs hy hp hne
     unfold fL;rw[x6,J6,hp,hu,j4];have hfo:(nG own e).opq=(y.opq || y.bE == 4):=by unfold nG;rw[hgy];simp[j4]
     rw[hfo];rcases hk j4 y hgy with h|h
     ·simp[h]
     ·simp[h]
    ·have hgy:bW own e.p=aN:=eV hne h
     have hfo:nG own e=e:=by unfold nG;rw[hgy]
     rw[hfo];unfold fL;simp[j4,gX]
  rw[dN];unfold fM;simp only[dy];constructor
  ·rintro⟨x,hx,hh⟩
   rcases(qy x).1 hx with rfl|⟨hx,_⟩
   ·by_cases h:∃ y∈own,y.p=e.p
    ·obtain⟨y,hy,hp⟩:=h
     exact⟨y,hy,by rw[<- key.1 y hy hp];exact hh⟩
    ·rw[key.2 (fun y hy hp=>h ⟨y,hy,hp⟩)]at hh;cases hh
   ·exact⟨x,hx,hh⟩
  ·rintro⟨x,hx,hh⟩
   by_cases hp:x.p=e.p
   ·exact⟨_,(qy _).2 (.inl rfl),by rw[key.1 x hx hp];exact hh⟩
   ·exact⟨x,(qy _).2 (.inr ⟨hx,hp⟩),hh⟩
 refine⟨⟨fun x hx=>?_,uy e hs,fun x hx=>?_⟩,fun q hq h1 h2=>?_,?_,fun h2 q hu=>?_,⟨nG own e,(qy _).2 (.inl rfl),x6,J6⟩,fun x hx=>?_⟩
 ·rcases(qy x).1 hx with rfl|⟨hx,_⟩
  ·exact hfw
  ·exact hO.each x hx
 ·have keep:∀ d∈own,d.bE=2->(d.p=e.p->e.bE=2)->∃ z∈iW own e,z.p=d.p/\z.bE=2:=fun d hd uH wN=>by
   by_cases hp:d.p=e.p
   ·exact⟨_,(qy _).2 (.inl rfl),by rw[x6,hp],by rw[J6];exact wN hp⟩
   ·exact⟨d,(qy _).2 (.inr ⟨hd,hp⟩),rfl,uH⟩
  rcases(qy x).1 hx with rfl|⟨hx,hxe⟩
  ·rw[x6]
   by_cases h0:bU e.p=[]
   ·exact .inl h0
   ·obtain⟨d,hg,uH⟩:=(yd h0).1 hd
    obtain⟨W7,mZ⟩:=dK h0 hg;obtain⟨z,hz,h1,h2⟩:=keep d W7 uH (fun h=>by have:=eY hne;rw[<- mZ,h]at this;omega);exact .inr ⟨z,hz,h1.trans mZ,h2⟩
  ·rcases hO.dir x hx with g|⟨d,W7,mZ,uH⟩
   ·exact .inl g
   ·obtain⟨z,hz,h1,h2⟩:=keep d W7 uH (fun h=>by
     rcases Decidable.em (e.bE=2)with h2|h2
     ·exact h2
     ·have:=hn h2 x hx
      rw[<- h,mZ,jz (hO.ne hx) (by rw[<- mZ,h];exact hne)]at this;cases this)
    exact .inr ⟨z,hz,h1.trans mZ,h2⟩
 ·unfold kp
  rw[nY q hq,aW h1,afL q h1 h2]
 ·unfold kp
  rw[nY _ hne,aY rfl];simp only[J6,Z5]
 ·have hq:q≠[]:=by rintro rfl;have:=nk hu hne;simp at this
  have YZ:q≠e.p:=TY hne hu;unfold kp;rw[nY q hq,aW YZ];have hg:bW own q=aN:=eV hq fun y hy hp=>by have:=hn h2 y hy;rw[hp,hu]at this;cases this
  have hh:fM (iW own e) q=aI:=dy.2 ⟨nG own e,(qy _).2 (.inl rfl),by unfold fL;rw[x6,J6,hu];simp[h2]⟩;rw[hg,hh];rfl
 ·rcases(qy x).1 hx with rfl|⟨hx,_⟩
  ·exact .inr (.inl x6)
  ·exact .inl hx
theorem Ot{l:aB aD}(h:anI l=aI):bU l=[]\/anI (bU l)=aI:=(Og l h).2.2.1
theorem MW(h:anI q=aI):dv (pD (fU q) 2) aI=0:=by unfold dv;rw[mD,h];simp[pD,ByteArray.size]
theorem GW(h:anI q=aI):dv (pD (fU q) 4) aI=0:=by unfold dv;rw[mD,h];simp[pD,ByteArray.size]
theorem Ou{d:bP}(h:dv d aH=0)(hk:d.bE=2):d=pD (fU d.p) 2:=by
 have ho:=(ye h).2;have ht:d.text.size=0:=by
  unfold dv at h;split at h
  ·omega
  split at h
  ·omega
  split at h
  ·omega
  split at h
  ·omega
  rename_i c;by_cases h0:d.text.size=0
  ·exact h0
  ·exact aG (by simp[hk,h0]) c
 obtain⟨p,k,t,o⟩:=d;simp only at hk ho ht;subst hk ho;have h0:t.data.toList=[]:=dr.1 (by rw[FH];exact ht);have h1:t=⟨#[]⟩:=fV h0;subst h1;show bP.mk p 2 _ aH=bP.mk (fU p) 2 _ aH;congr 1
theorem F5{B:aB bP}(hB:du aH B):∀ (n:aE) {own:aB bP} {e:bP},e.p.length<=n->anJ aI own->dv e aI=0->e.opq=aH ->
  (bU e.p=[]\/∃ d,kp B own (bU e.p)=aO d/\d.bE=2)->(e.bE=2->∀ y,bW own e.p=aO y->y.bE=2\/y.bE=4)->(¬ e.bE=2->∀ y∈own,anG y.p e.p=aH)->QQ B own e (cZ own e)
 | n,own,e,hl,hO,he,gX,hd,hk,hn=>by
  have hne:e.p≠[]:=gM (dX he);by_cases h:jG own (bU e.p)=aI
  ·rw[pM h]
   exact JN hO he gX h hk hn
  ·have h0:bU e.p≠[]:=fun h0=>h (by rw[h0];exact kL own)
   have Ep:=eY hne;have hu:anG e.p (bU e.p)=aI:=jz hne h0;have mz:anI (bU e.p)=aI:=by
    rcases Ot (dX he)with g|g
    ·exact aG g h0
    ·exact g
   obtain⟨d,x9,uH⟩:∃ d,kp B own (bU e.p)=aO d/\d.bE=2:=by
    rcases hd with g|g
    ·exact aG g h0
    ·exact g
   have VD:bW own (bU e.p)=aN:=by
    cases hg:bW own (bU e.p)with
    | none=>rfl
    | some y=>
     exfalso;unfold kp at x9;rw[hg]at x9;simp only at x9;split at x9
     ·cases x9
     ·cases x9
      exact h ((yd h0).2 ⟨y,hg,uH⟩)
   have hdB:d∈B/\d.p=bU e.p:=by
    unfold kp at x9;rw[VD]at x9;simp only at x9;split at x9
    ·cases x9
    ·exact dK h0 x9
   have wN:d=pD (fU (bU e.p)) 2:=by have:=Ou (hB.each d hdB.1) uH;rw[hdB.2]at this;exact this
   cases n with
   | zero=>exact aG (dr.1 (by omega)) hne
   | succ n=>
    have ih:=F5 hB n (own:=own) (e:=pD (fU (bU e.p)) 2) (by rw[mD];omega) hO (MW mz) rfl
     (by rw[mD];exact Wh hO hB h0 x9) (fun _ y hy=>by rw[mD,VD]at hy;cases hy) (fun h=>aG rfl h)
    rw[rC h];generalize cZ own (pD (fU (bU e.p)) 2)=o at ih;have vM:∀ q,q≠[]->kp B o q=kp B own q:=fun q hq=>by
     by_cases hqd:q=bU e.p
     ·have:=ih.here
      rw[mD]at this;rw[hqd,this,x9,aW (by show ¬ (2:aF)=4;decide),wN]
     ·exact ih.same q hq (by rw[mD];exact hqd) (.inl rfl)
    have hno:∀ y∈o,y.p≠e.p:=fun y hy hp=>by
     rcases ih.mem y hy with g|g|g
     ·obtain⟨z,hz,Za,_⟩:=hO.below h0 y.p.length (aV _) g (by rw[hp];exact hu)
      exact(gU VD).2 z hz Za
     ·rw[mD,hp]at g
      rw[<- g]at Ep;omega
     ·rw[mD,hp]at g
      have:=nk g hne;omega
    have K6:jG o (bU e.p)=aI:=by obtain⟨y,hy,hyp,hyk⟩:=ih.there;rw[mD]at hyp;exact(yd h0).2 ⟨y,mJ ih.good.anF hy hyp h0,hyk⟩
    have st:=JN (B:=B) (own:=o) ih.good he gX K6 (fun _ y hy=>aG (dK hne hy).2 (hno y (dK hne hy).1)) (fun h2 y hy=>by
     cases hc:anG y.p e.p with
     | false=>rfl
     | true=>
      exfalso;rcases ih.mem y hy with g|g|g
      ·have:=hn h2 y g
       rw[hc]at this;cases this
      ·rw[mD]at g
       rw[g]at hc;have:=nk hc hne;omega
      ·rw[mD]at g
       have h1:=nk hc hne;have h2:=nk g (by intro h;rw[h]at h1;simp at h1);omega)
    refine⟨st.good,fun q hq h1 h2=>(st.same q hq h1 h2).trans (vM q hq),st.here,st.anG,st.there,fun x hx=>?_⟩;rcases st.mem x hx with g|g|g
    ·rcases ih.mem x g with g|g|g
     ·exact .inl g
     ·rw[mD]at g
      exact .inr (.inr (by rw[g];exact hu))
     ·rw[mD]at g
      have UG:x.p≠[]:=by intro h;exact ih.good.ne (e:=x) (by assumption) h
      exact .inr (.inr (o6 h0 UG hu g))
    ·exact .inr (.inl g)
    ·exact .inr (.inr g)
theorem E5(hB:du aH B)(hO:anJ aI own)(he:dv e aH=0)(hd:bU e.p=[]\/∃ d,kp B own (bU e.p)=aO d/\d.bE=2)(hk:∀ y,kp B own e.p=aO y->(y.bE=2↔e.bE=2)):anJ aI (cZ own e)/\(∀ q,q≠[]->kp B (cZ own e) q=if q=e.p then aO e else kp B own q):=by
 have Ux:=ye he;have hne:e.p≠[]:=gM (dX he);have hno:¬ e.bE=2->∀ q,anG q e.p=aI->kp B own q=aN:=fun h2 q hu=>by
  cases hc:kp B own q with
  | none=>rfl
  | some x =>obtain⟨d,hd,uH⟩:=P3 hO hB hne hu hc;exact aG ((hk d hd).1 uH) h2
 have H:=F5 hB e.p.length (aV _) hO (GV he) Ux.2 hd (fun h2 y hy=>by
   have hy':=dK hne hy;by_cases h4:y.bE=4
   ·exact .inr h4
   ·left
    have:=NK (B:=B) hO.anF hy'.1 (by rw[hy'.2];exact hne) h4;rw[hy'.2]at this;exact(hk _ this).2 h2) (fun h2 y hy=>by
   cases hc:anG y.p e.p with
   | false=>rfl
   | true=>
    obtain⟨d,W7,mZ,uH⟩:=hO.below hne y.p.length (aV _) hy hc;have:=NK (B:=B) hO.anF W7 (by rw[mZ];exact hne) (by omega);rw[mZ]at this;exact aG ((hk _ this).1 uH) h2)
 refine⟨H.good,fun q hq=>?_⟩;by_cases YZ:q=e.p
 ·rw[aY YZ,YZ,H.here,aW Ux.1]
 ·rw[aW YZ]
  by_cases h2:e.bE=2
  ·exact H.same q hq YZ (.inl h2)
  ·cases hu:anG q e.p with
   | false=>exact H.same q hq YZ (.inr hu)
   | true=>rw[H.anG h2 q hu,hno h2 q hu]
/-! an upper anH drops a bm -/
def rG(p:aB aD)(q:aB aD):Bool:=decide (q=p) || anG q p
def mH(own:aB bP)(p:aB aD):aB bP:=own.filter fun x => !rG p x.p
def ec(own B:aB bP)(p:aA):aB bP:=
 if(bW B p).isSome && !fM (mH own p) p.data.toList then cZ (mH own p) (pD p 4)else mH own p.data.toList
theorem iX:rG p q=aI↔q=p\/anG q p=aI:=by simp[rG]
theorem nL:x∈mH own p↔x∈own/\rG p x.p=aH:=by simp[mH]
theorem KF(hO:anJ aI own)(hp:p≠[]):anJ aI (mH own p)/\∀ q,q≠[]->rG p q=aH->kp B (mH own p) q=kp B own q:=by
 refine⟨⟨fun x hx=>hO.each x (nL.1 hx).1,dY _ hO.anF,fun x hx=>?_⟩,fun q hq hw=>?_⟩
 ·obtain⟨hx,hw⟩:=nL.1 hx
  rcases hO.dir x hx with g|⟨d,hd,mZ,uH⟩
  ·exact .inl g
  ·refine .inr ⟨d,nL.2 ⟨hd,?_⟩,mZ,uH⟩
   cases hc:rG p d.p with
   | false=>rfl
   | true=>
    exfalso;have zQ:=hO.ne hd;have hu:anG x.p d.p=aI:=by rw[mZ];exact jz (hO.ne hx) (by rw[<- mZ];exact zQ)
    have:rG p x.p=aI:=by
     rcases iX.1 hc with h|h
     ·exact iX.2 (.inr (by rw[<- h];exact hu))
     ·exact iX.2 (.inr (o6 zQ hp hu h))
    rw[hw]at this;cases this
 ·have hg:bW (mH own p) q=bW own q:=get_filter hO.anF hq fun y hy hyp=>by rw[hyp,hw];rfl
  have hh:fM (mH own p) q=fM own q:=by
   rw[dN];unfold fM;simp only[dy];constructor
   ·rintro⟨x,hx,h⟩;exact⟨x,(nL.1 hx).1,h⟩
   ·rintro⟨x,hx,h⟩
    refine⟨x,nL.2 ⟨hx,?_⟩,h⟩;cases hc:rG p x.p with
    | false=>rfl
    | true=>
     exfalso;have UG:=hO.ne hx;have:rG p q=aI:=by
      unfold fL at h;simp only[gZ,fh,ew]at h;rcases h with⟨h,_⟩|⟨h,_⟩
      ·rw[<- h];exact hc
      ·rcases iX.1 hc with g|g
       ·exact iX.2 (.inr (by rw[<- g];exact h))
       ·exact iX.2 (.inr (o6 UG hp h g))
     rw[hw]at this;cases this
  unfold kp;rw[hg,hh]
theorem A8(q:aA)(k:aF):(pD q k).p=q.data.toList:=rfl
theorem LG(q:aA)(k:aF):pD q k=pD (fU q) k:=by unfold pD;congr 1
theorem FX{p:aA}(hB:du aH B)(hO:anJ aI own)(hc:anI p.data.toList=aI)(hd:bU p.data.toList=[]\/∃ d,kp B own (bU p)=aO d/\d.bE=2):anJ aI (ec own B p)/\∀ q,q≠[]->kp B (ec own B p) q=if rG p q then aN else kp B own q:=by
 have hp:p.data.toList≠[]:=gM hc;obtain⟨hG,Sx⟩:=KF (B:=B) hO hp;have Sn:∀ q,q≠[]->rG p q=aI->bW (mH own p) q=aN:=fun q hq hw=>
  eV hq fun y hy hyp=>by have:=(nL.1 hy).2;rw[hyp,hw]at this;cases this
 unfold ec;by_cases hcon:((bW B p).isSome && !fM (mH own p) p.data.toList)=aI
 ·rw[aY hcon]
  have zQ:bU p.data.toList=[]\/∃ d,kp B (mH own p) (bU p)=aO d/\d.bE=2:=by
   rcases hd with g|⟨d,h1,h2⟩
   ·exact .inl g
   ·by_cases h0:bU p.data.toList=[]
    ·exact .inl h0
    ·refine .inr ⟨d,?_,h2⟩
     rw[Sx _ h0 ?_]
     ·exact h1
     ·have Ep:=eY hp
      cases hw:rG p (bU p)with
      | false=>rfl
      | true=>
       rcases iX.1 hw with g|g
       ·rw[g]at Ep;omega
       ·have:=nk g hp;omega
  have H:=F5 hB (pD p 4).p.length (aV _) hG (by rw[LG];exact GW hc) rfl (by rw[A8];exact zQ) (fun h=>by cases h) (fun _ y hy=>by
   rw[A8];have:=(nL.1 hy).2;unfold rG at this;simp only[mj]at this;exact this.2)
  refine⟨H.good,fun q hq=>?_⟩;by_cases hqp:q=p.data.toList
  ·rw[hqp,aY (iX.2 (.inl rfl))]
   have:=H.here;rw[A8]at this;rw[this,aY (show(pD p 4).bE=4 from rfl)]
  ·cases hu:anG q p with
   | true=>rw[aY (iX.2 (.inr hu))];exact H.anG (by show ¬ (4:aF)=2;decide) q hu
   | false=>
    have hw:rG p q=aH:=by unfold rG;rw[hu];simp[hqp]
    rw[hw,H.same q hq hqp (.inr hu),Sx q hq hw];rfl
 ·rw[aW hcon]
  refine⟨hG,fun q hq=>?_⟩;cases hw:rG p q with
  | false=>rw[Sx q hq hw];rfl
  | true=>
   rw[aY rfl];unfold kp;rw[Sn q hq hw];simp only;by_cases hh:fM (mH own p) p.data.toList=aI
   ·have:fM (mH own p) q=aI:=by
     obtain⟨y,hy,K9⟩:=dy.1 hh;refine dy.2 ⟨y,hy,?_⟩;have ku:=hG.ne hy;have hyp:y.p≠p.data.toList:=fun h=>by have:=(nL.1 hy).2;rw[h]at this;rw[iX.2 (.inl rfl)]at this;cases this
     unfold fL at K9 ⊢;simp only[hyp,decide_false,UK,Bool.false_or,fh]at K9;have hu:anG q y.p=aI:=by
      rcases iX.1 hw with h|h
      ·rw[h];exact K9.1
      ·exact o6 hp ku h K9.1
     rw[hu,K9.2];simp
    rw[this];rfl
   ·have ph:bW B p.data.toList=aN:=by
     cases hg:bW B p with
     | none=>rfl
     | some z=>exact aG (by rw[hg];simp at hh ⊢;exact hh) hcon
    have:bW B q=aN:=by
     refine eV hq fun y hy hyp=>?_
     rcases iX.1 hw with h|h
     ·exact(gU ph).2 y hy (hyp.trans h)
     ·obtain⟨z,hz,Za,_⟩:=hB.below hp y.p.length (aV _) hy (by rw[hyp];exact h)
      exact(gU ph).2 z hz Za
    rw[this];split<;>rfl
theorem FW(own:aB bP)(p:aB aD):(mH own p).length<=own.length:=ed _ _
theorem CM{p:aA}(hs:b7 own):(ec own B p).length<=own.length+p.size+1/\b7 (ec own B p):=by
 have h1:b7 (mH own p):=dY _ hs;have h2:=FW own p.data.toList;unfold ec;split
 ·obtain⟨h3,h4⟩:=qe (pD p 4).p.length (own:=mH own p) (e:=pD p 4) (aV _) h1
  have:(pD p 4).p.length=p.size:=by rw[A8];rfl
  exact⟨by omega,h3⟩
 ·exact⟨by omega,h1⟩
end Go.Proofs.YtjnkfelecopbjaaGreatDoor.PM
namespace Go.Proofs.YtjnkfelecopbjaaGreatDoor
open Go.RowKit PM Go.Sort
variable{e:bP}{cq:aB (aB bP)}{s up:aB bP}
namespace PM
def iH(bS anW:aA)(o:aB bP)(M:aB bP):aB bP:=M.foldl (fun o e=>cZ o (ma bS anW e)) o
def fQ(own B s:aB bP)(anW:aA):aB bP:=if(bW s anW).isSome then ec own B anW else own
def kh(own B s:aB bP)(bS anW:aA):aB bP:=iH bS anW (ec (fQ own B s anW) B bS) (s.filter (jC bS))
end PM
theorem Oo(a s:aB aD):∃ r,(r=[]\/∃ x,r=47::x)/\∀ b:aB aD,bU (b++47::s)=b++r:=by
 rcases nT s with hf|⟨x,y,rfl,hy⟩
 ·exact⟨[],.inl rfl,fun b=>by rw[bU,iC b s hf,fj]⟩
 ·refine⟨47::x,.inr ⟨x,rfl⟩,fun b=>?_⟩
  rw[bU,show b++47::(x++47::y)=(b++47::x)++47::y by simp,iC _ y hy]
structure Hq (B s:aB bP) (bS anW:aA) (pre o:aB bP):Prop where
 good:PM.anJ aI o
 put:∀ q,q≠[]->∀ e∈pre,(ma bS anW e).p=q->kp B o q=aO (ma bS anW e)
 rest:∀ q,q≠[]->(∀ e∈pre,(ma bS anW e).p≠q)->kp B o q=if rG bS q then aN else if rG anW q then aN else bW s q
section
variable {B own s:aB bP}{bS anW:aA}(hB:du aH B)(h:tQ s bS anW)
include h
theorem tQ.acE:rG bS anW.data.toList=aH:=by unfold rG;rw[h.S6];simp[lD h.ne]
theorem tQ.acC(hi:jC bS e=aI):e.p≠anW.data.toList:=fun hp=>by have h1:rG bS e.p=aI:=hi;rw[hp,h.acE]at h1;cases h1
include hB
theorem Px{pre post o:aB bP}(hM:s.filter (jC bS)=pre++e::post)(I:Hq B s bS anW pre o):Hq B s bS anW (pre++[e]) (cZ o (ma bS anW e)):=by
 have heM:e∈s.filter (jC bS):=by rw[hM];simp
 obtain⟨Uv,hi⟩:=dS.1 heM;have hsM:b7 (pre++e::post):=by rw[<- hM];exact dY _ h.right.anF
 have acd:=dA.1 hsM;obtain⟨r,hr,Xg⟩:=qh h.Af hi;have Sl:(ma bS anW e).p=anW.data.toList++r:=oR hr;have mz:=h.cl e Uv (h.acC hi) hi;have hw:dv (ma bS anW e) aH=0:=BD (h.right.each e Uv) rfl rfl rfl mz;have af6:(ma bS anW e).p≠[]:=gM mz;have qy:∀ e'∈pre,e'∈s/\jC bS e'=aI:=fun e' O0=>dS.1 (by rw[hM];simp[O0])
 have R8:∀ e'∈pre,(ma bS anW e').p≠(ma bS anW e).p:=fun e' O0 hp=>by obtain⟨r',Cq,_⟩:=qh h.Af (qy e' O0).2;rw[Sl,oR Cq]at hp;rw[ZJ hp]at Cq;exact pR (acd.2.2 e' O0 e (by simp)) (Cq.trans hr.symm)
 have mq:rG anW (ma bS anW e).p=aI:=by
  rw[Sl];rcases Xg with rfl|⟨x,rfl⟩
  ·exact iX.2 (.inl (by simp))
  ·exact iX.2 (.inr ((eB _ _ h.Qc).2 ⟨x,rfl⟩))
 have Sn:kp B o (ma bS anW e).p=aN:=by rw[I.rest _ af6 R8,mq];split<;>rfl
 have hd:bU (ma bS anW e).p=[]\/∃ d,kp B o (bU (ma bS anW e).p)=aO d/\d.bE=2:=by
  rcases Xg with rfl|⟨x,rfl⟩
  ·have kG:(ma bS anW e).p=anW.data.toList:=by rw[Sl];simp
   rw[kG];rcases h.dir with g|⟨d,hd,mZ,uH⟩
   ·exact .inl g
   ·have zQ:bU anW.data.toList≠[]:=by rw[<- mZ];exact h.right.ne hd
    have Ep:=eY h.Qc;refine .inr ⟨d,?_,uH⟩;rw[I.rest _ zQ (fun e' O0 hp=>by
     obtain⟨r',Cq,_⟩:=qh h.Af (qy e' O0).2;rw[oR Cq]at hp;have:=congrArg List.length hp;rw[cJ]at this;omega)]
    have h1:rG bS (bU anW)=aH:=by
     cases hc:rG bS (bU anW)with
     | false=>rfl
     | true=>
      exfalso;have hu:=jz h.Qc zQ;have:=h.S6;rcases iX.1 hc with g|g
      ·rw[<- g,hu]at this;cases this
      ·rw[o6 zQ h.Af hu g]at this;cases this
    have h2:rG anW (bU anW)=aH:=by
     cases hc:rG anW (bU anW)with
     | false=>rfl
     | true=>
      exfalso;rcases iX.1 hc with g|g
      ·rw[g]at Ep;omega
      ·have:=nk g h.Qc;omega
    rw[h1,h2];exact mJ h.right.anF hd mZ zQ
  ·obtain⟨r2,Cr,K6⟩:=Oo [] x
   have wN:bU e.p=bS.data.toList++r2:=by rw[hr];exact K6 _
   have W7:bU (ma bS anW e).p=anW.data.toList++r2:=by rw[Sl];exact K6 _
   have abp:bU e.p≠[]:=by rw[wN];intro h0;exact h.Af (aaJ.1 h0).1
   rcases h.right.dir e Uv with g|⟨d,hds,mZ,uH⟩
   ·exact aG g abp
   ·have hdr:d.p=bS.data.toList++r2:=mZ.trans wN
    have Vz:jC bS d=aI:=SI h.Af hdr Cr;have hdM:d∈pre++e::post:=by rw[<- hM];exact dS.2 ⟨hds,Vz⟩
    have gm:Ja d e:=by unfold Ja;rw[mZ];exact Rg (h.right.ne Uv) abp
    have abq:d∈pre:=by
     rcases bZ.1 hdM with g|g
     ·exact g
     ·rcases cX.1 g with rfl|g
      ·exact aG rfl (pR gm)
      ·exact(wP gm ((eJ.1 acd.2.1).1 d g)).elim
    have hpd:(ma bS anW d).p=bU (ma bS anW e).p:=by rw[W7];exact oR hdr
    exact .inr ⟨ma bS anW d,I.put _ (by rw[W7];intro h0;exact h.Qc (aaJ.1 h0).1) d abq hpd,uH⟩
 obtain⟨hG,vM⟩:=E5 hB I.good hw hd (fun y hy=>by rw[Sn]at hy;cases hy);refine⟨hG,fun q hq e' O0 hp=>?_,fun q hq hno=>?_⟩
 ·rcases bZ.1 O0 with g|g
  ·rw[vM q hq,aW (by rw[<- hp];exact R8 e' g)]
   exact I.put q hq e' g hp
  ·rw[Hp]at g
   subst g;rw[vM q hq,aY hp.symm]
 ·rw[vM q hq,aW (fun g=>hno e (by simp) g.symm)]
  exact I.rest q hq fun e' O0=>hno e' (by simp[O0])
theorem Fh:∀ (post pre o:aB bP),s.filter (jC bS)=pre++post->Hq B s bS anW pre o->Hq B s bS anW (s.filter (jC bS)) (iH bS anW o post)
 | [],pre,o,hM,I=>by rw[hM,fj];exact I
 | e::post,pre,o,hM,I=>Fh post (pre++[e]) _ (by rw[hM];simp) (Px hB h hM I)
theorem VW(hO:PM.anJ aI own)(hs:∀ q,q≠[]->kp B own q=bW s q):PM.anJ aI (kh own B s bS anW)/\∀ l:aB bP,l.Perm (gO s bS anW)->(l.Pairwise fun a b=>¬ cmp b.p a.p<0)->∀ q,q≠[]->kp B (kh own B s bS anW) q=bW l q:=by
 obtain⟨a,ha,Uq⟩:=h.src;have Z5:anI bS.data.toList=aI:=by rw[<- Uq];exact h.right.anI ha
 have e1:PM.anJ aI (fQ own B s anW)/\∀ q,q≠[]->kp B (fQ own B s anW) q=if rG anW q then aN else bW s q:=by
  unfold fQ;by_cases hg:(bW s anW).isSome=aI
  ·rw[aY hg]
   obtain⟨g1,g2⟩:=FX hB hO h.Wp (by
    rcases h.dir with g|⟨d,hd,mZ,uH⟩
    ·exact .inl g
    ·have zQ:bU anW.data.toList≠[]:=by rw[<- mZ];exact h.right.ne hd
     exact .inr ⟨d,by rw[hs _ zQ];exact mJ h.right.anF hd mZ zQ,uH⟩)
   exact⟨g1,fun q hq=>by rw[g2 q hq,hs q hq]⟩
  ·rw[aW hg]
   refine⟨hO,fun q hq=>?_⟩;rw[hs q hq];cases hw:rG anW q with
   | false=>rfl
   | true=>
    rw[aY rfl];refine eV hq fun x hx hp=>?_
    rcases iX.1 hw with g|g
    ·apply hg
     rw[mJ h.right.anF hx (hp.trans g) h.Qc];rfl
    ·have:=h.free x hx
     rw[hp,g]at this;cases this
 obtain⟨G1,S1⟩:=e1;have e2:=FX (p:=bS) hB G1 Z5 (by
  rcases h.right.dir a ha with g|⟨d,hd,mZ,uH⟩
  ·rw[Uq]at g;exact .inl g
  ·rw[Uq]at mZ
   have zQ:bU bS.data.toList≠[]:=by rw[<- mZ];exact h.right.ne hd
   refine .inr ⟨d,?_,uH⟩;rw[S1 _ zQ];have:rG anW (bU bS)=aH:=by
    cases hc:rG anW (bU bS)with
    | false=>rfl
    | true=>
     exfalso;have hu:=jz h.Af zQ;have hnu:=h.S5;rcases iX.1 hc with g|g
     ·rw[<- g,hu]at hnu;cases hnu
     ·rw[o6 zQ h.Qc hu g]at hnu;cases hnu
   rw[this];exact mJ h.right.anF hd mZ zQ)
 obtain⟨G2,S2⟩:=e2;have I0:Hq B s bS anW [] (ec (fQ own B s anW) B bS):=⟨G2,fun q _ e he=>by simp at he,fun q hq _=>by rw[S2 q hq,S1 q hq]⟩
 have I:=Fh hB h (s.filter (jC bS)) [] _ rfl I0;refine⟨I.good,fun l hp rf q hq=>?_⟩;have hR:=h.Mm hp rf;show kp B (iH bS anW (ec (fQ own B s anW) B bS) (s.filter (jC bS))) q=_;by_cases hex:∃ e∈s.filter (jC bS),(ma bS anW e).p=q
 ·obtain⟨e,he,heq⟩:=hex
  rw[I.put q hq e he heq];obtain⟨Uv,hi⟩:=dS.1 he;exact(mJ hR.anF (h.goes hp Uv hi) heq hq).symm
 ·have hno:∀ e∈s.filter (jC bS),(ma bS anW e).p≠q:=fun e he hp=>hex ⟨e,he,hp⟩
  rw[I.rest q hq hno];have RW:∀ x∈l,x.p=q->x∈s/\x.p≠anW.data.toList/\jC bS x=aH:=fun x hx yG=>by
   obtain⟨y,hy,hyT,Nx⟩:=(h.mem hp).1 hx;cases hc:jC bS y with
   | true =>rw[D4,hc]at Nx;exact aG (by rw[<- yG,<- Nx];rfl) (hno y (dS.2 ⟨hy,hc⟩))
   | false =>rw[D4,hc]at Nx;have Nx:y=x:=Nx;subst Nx;exact⟨hy,hyT,hc⟩
  cases qM:rG bS q with
  | true =>rw[aY rfl];refine(eV hq fun x hx yG=>?_).symm;have:=(RW x hx yG).2.2;have h2:jC bS x=rG bS x.p:=rfl;rw[h2,yG,qM]at this;cases this
  | false=>
   rw[aW (by decide)];cases xw:rG anW q with
   | true=>
    rw[aY rfl];refine(eV hq fun x hx yG=>?_).symm;obtain⟨hxs,hxT,_⟩:=RW x hx yG;rcases iX.1 xw with g|g
    ·exact hxT (yG.trans g)
    ·have:=h.free x hxs
     rw[yG,g]at this;cases this
   | false=>
    rw[aW (by decide)];cases hg:bW s q with
    | none=>exact(eV hq fun x hx yG=>(gU hg).2 x (RW x hx yG).1 yG).symm
    | some z =>obtain⟨hz,Za⟩:=dK hq hg;have h2:jC bS z=rG bS z.p:=rfl;refine(mJ hR.anF (h.stays hp hz (fun hT=>?_) (by rw[h2,Za,qM])) Za hq).symm;rw[<- Za,hT,iX.2 (.inl rfl)]at xw;cases xw
end
theorem zz{t:aB bP}(h:dW t e=0):du aH t/\dv e aH=0/\du aH (kM t e):=by
 have ha:j9 t e=0:=by
  by_cases ha:j9 t e=0
  ·exact ha
  ·rw[oY ha]at h;exact aG h ha
 obtain⟨h1,h2,h3⟩:=sm ha;refine⟨h1,h2,h1.put h2 h3 (fun x hx hp=>?_) (fun hn=>?_)⟩
 ·rw[uq ha hx hp]at h
  split at h
  ·rename_i hk
   rw[dN]at hk;simpa using hk
  ·cases h
 ·rw[yl ha hn]at h
  split at h
  ·cases h
  ·have:=h1.len;omega
/-! the union whole -/
theorem DL{own:aB bP}{l:aB bP}(h0:(bG cq).1=0)(hO:PM.anJ aI own)(hlen:own.length<=80)(hl:du aH l)(h:∀ q,q≠[]->kp (bG cq).2 own q=bW l q):bG (own::cq)=(0,l):=by
 have hB:=lQ h0;have he:lq own (bG cq).2=l:=Vj (mO hO.anF hB.anF) hl.anF (fun e he=>(AA hO hB).ne he) (fun e he=>hl.ne he) fun q hq=>by rw[sW hO.anF hB.anF hq];exact h q hq
 have hz:gH own (bG cq).2=0:=qO.2 ⟨hO.right hlen,hB,by rw[<- zu hO.anF hB.anF,he];exact hl.len⟩;rw[rj h0,hz,aY rfl,he]
theorem sy(h:(bG (up::cq)).1=0):(bG cq).1=0/\du aI up/\du aH (bG cq).2/\du aH (bG (up::cq)).2/\∀ q,q≠[]->kp (bG cq).2 up q=bW (bG (up::cq)).2 q:=by obtain⟨h1,h2,h3⟩:=ox h;obtain⟨g1,g2,g3⟩:=qO.1 h2;refine⟨h1,g1,g2,lQ h,fun q hq=>?_⟩;rw[h3,sW g1.anF g2.anF hq]
theorem GA{t:aB bP}(h:dW t e=0):eL t (bU e.p)=0/\∀ x∈t,x.p=e.p->(x.bE=2↔e.bE=2):=by
 unfold dW at h;split at h
 ·rename_i ha
  refine⟨(sm ha).2.2,fun x hx hp=>?_⟩;split at h
  ·cases h
  ·rename_i g
   have:(x.bE == 2)=(e.bE == 2):=xN fun hc=>g ⟨x,hx,hp,hc⟩
   rw[dN]at this;simpa using this
 ·rename_i ha;exact aG h ha
theorem PR(hm:bG (up::cq)=(0,s))(hp:dW s e=0):PM.anJ aI (cZ up e)/\((cZ up e).length<=80->bG (cZ up e::cq)=(0,kM s e)):=by
 obtain⟨h1,hU,hB,hS,vM⟩:=sy (up:=up) (cq:=cq) (by rw[hm]);rw[hm]at hS vM;obtain⟨_,hw,hR⟩:=zz hp;obtain⟨En,hk⟩:=GA hp;have hne:=gM (dX hw);obtain⟨hG,UD⟩:=E5 hB hU.good hw (by
  rcases oy.1 En with g|⟨d,_,_,uH,hg⟩
  ·exact .inl g
  ·by_cases h0:bU e.p=[]
   ·exact .inl h0
   ·exact .inr ⟨d,by rw[vM _ h0];exact hg,uH⟩) (fun y hy=>by
  rw[vM _ hne]at hy;obtain⟨hy1,hy2⟩:=dK hne hy;exact hk y hy1 hy2)
 refine⟨hG,fun hlen=>DL h1 hG hlen hR fun q hq=>?_⟩;rw[UD q hq,Ng hS.anF hq,vM q hq]
theorem GH{p:aA}(hm:bG (up::cq)=(0,s))(hp:eP s p.data.toList=0):PM.anJ aI (ec up (bG cq).2 p)/\((ec up (bG cq).2 p).length<=80->bG (ec up (bG cq).2 p::cq)=(0,pq s p)):=by
 obtain⟨h1,hU,hB,hS,vM⟩:=sy (up:=up) (cq:=cq) (by rw[hm]);rw[hm]at hS vM;obtain⟨_,⟨a,ha,Uq⟩,rR⟩:=vZ hp;have hc:anI p.data.toList=aI:=by rw[<- Uq];exact hS.anI ha
 have hne:=gM hc;obtain⟨hG,UD⟩:=FX (p:=p) hB hU.good hc (by
  rcases hS.dir a ha with g|⟨d,hd,mZ,uH⟩
  ·rw[Uq]at g;exact .inl g
  ·rw[Uq]at mZ
   have zQ:bU p.data.toList≠[]:=by rw[<- mZ];exact hS.ne hd
   exact .inr ⟨d,by rw[vM _ zQ];exact mJ hS.anF hd mZ zQ,uH⟩)
 refine⟨hG,fun hlen=>DL h1 hG hlen (hS.rem hne rR) fun q hq=>?_⟩;rw[UD q hq,vM q hq];cases hw:rG p q with
 | true=>
  rw[aY rfl];refine(eV hq fun x hx yG=>?_).symm;obtain⟨tJ,yc⟩:=jJ.1 hx;rcases iX.1 hw with g|g
  ·exact yc (yG.trans g)
  ·have:=rR x tJ
   rw[yG,g]at this;cases this
 | false=>
  rw[aW (by decide)];refine(get_filter hS.anF hq fun y hy hyp=>?_).symm;have:y.p≠p.data.toList:=fun hh=>by rw[<- hyp,hh,iX.2 (.inl rfl)]at hw;cases hw
  simp[this]
theorem Dl{bS anW:aA}(hm:bG (up::cq)=(0,s))(hp:ez s bS anW=0)(hne:bS.data.toList≠anW.data.toList):PM.anJ aI (kh up (bG cq).2 s bS anW)/\((kh up (bG cq).2 s bS anW).length<=80->∀ l:aB bP,l.Perm (gO s bS anW)->(l.Pairwise fun a b=>¬ cmp b.p a.p<0)->bG (kh up (bG cq).2 s bS anW::cq)=(0,l)):=by obtain⟨h1,hU,hB,hS,vM⟩:=sy (up:=up) (cq:=cq) (by rw[hm]);rw[hm]at hS vM;have lH:=wQ hp hne;obtain⟨hG,UD⟩:=VW hB lH hU.good vM;exact⟨hG,fun hlen l hpm rf=>DL h1 hG hlen (lH.Mm hpm rf) (UD l hpm rf)⟩
