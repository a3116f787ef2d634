import Derived.Test.YtjnkfelecopbjaaGreatDoorYA6
open _root_ renaming ByteArray->aA,List->aB,UInt8->aD,Nat->aE,Int->aF,absurd->aG
open Bool renaming false->aH,true->aI
set_option linter.all false
namespace Go.Proofs.YtjnkfelecopbjaaGreatDoor
open Go.RowKit PM Go.Sort
variable{bA:aB bP}
namespace PM
def sw(t:aB aD):Bool:=t.head? == some 47
def qE(bA:aB bP)(cH:Bool)(a n:aB aD)(r:aB (aB aD))(h:aE):aF × aB aD × aB (aB aD) × aE:=
 if ¬ eL bA a=0 then(eL bA a,a,n::r,h)
 else if n=[46,46]then(0,bU a,r,h)
 else if((bW bA (fH a n)).getD cR).bE=3/\(r≠[]\/cH=aI)then
  if 8<h+1 then(12,a,r,h+1)
  else if ¬ (en ((bW bA (fH a n)).getD cR).text.data.toList).2=0 then((en ((bW bA (fH a n)).getD cR).text.data.toList).2,a,r,h+1)
  else(0,if sw ((bW bA (fH a n)).getD cR).text.data.toList then[]else a,(en ((bW bA (fH a n)).getD cR).text.data.toList).1++r,h+1)
 else(0,fH a n,r,h)
def nK(bA:aB bP)(cH:Bool):aE->aB aD->aB (aB aD)->aE->aF × aB aD
 | 0,a,_,_=>(0,a)
 | _+1,a,[],_=>(0,a)
 | g+1,a,n::r,h=>if(qE bA cH a n r h).1=0 then nK bA cH g (qE bA cH a n r h).2.1 (qE bA cH a n r h).2.2.1 (qE bA cH a n r h).2.2.2 else((qE bA cH a n r h).1,[])
def dV(bA:aB bP)(cH:Bool)(way:aB aD):aF × aB aD:=
 if ¬ (en way).2=0 then((en way).2,[])
 else if ¬ (nK bA cH 1100 [] (en way).1 0).1=0 then((nK bA cH 1100 [] (en way).1 0).1,[])
 else if 80<(nK bA cH 1100 [] (en way).1 0).2.length then(4,[])
 else(0,(nK bA cH 1100 [] (en way).1 0).2)
theorem yj:∀ (L:aB (aB aD)) {x:aB (aB aD)},gD L=some x->x.length<=L.length/\∀ n∈x,n.length<=12
 | [],x,h=>by simp[gD]at h;subst h;simp
 | p::r,x,h=>by
  rw[gD]at h;split at h
  ·obtain⟨h1,h2⟩:=yj r h
   exact⟨by simp;omega,h2⟩
  ·split at h
   ·cases h
   ·rename_i hb
    cases hr:gD r with
    | none=>rw[hr]at h;cases h
    | some y=>
     rw[hr]at h;simp at h;subst h;obtain⟨h1,h2⟩:=yj r hr;refine⟨by simp;omega,fun n hn=>?_⟩;rcases cX.1 hn with rfl|hn
     ·rw[fY]at hb
      rcases Ky hb with g|⟨_,g⟩
      ·have:=Vc.1 g;rw[this];decide
      ·unfold named at g
       simp at g;exact g.1.2
     ·exact h2 n hn
theorem L9:∀ (l eI:aB aD),(pa eI l).length<=l.length+1
 | [],eI=>by simp[pa]
 | c::r,eI=>by
  rw[pa];split
  ·have:=L9 r [];simp;omega
  ·have:=L9 r (eI++[c]);simp;omega
theorem tz(l:aB aD):(en l).1.length<=81/\∀ n∈(en l).1,n.length<=12:=by
 unfold en;split
 ·simp
 ·rename_i oq
  split
  ·simp
  ·cases h:gD (parts l)with
   | none=>simp
   | some x =>obtain⟨h1,h2⟩:=yj _ h;have:=L9 l [];refine⟨?_,h2⟩;show x.length<=81;unfold parts at h1;omega
theorem PC(hr:du aH bA){a:aB aD}(h:eL bA a=0):a.length<=80:=by
 unfold eL at h;by_cases h0:a=[]
 ·subst h0;simp
 ·cases hg:bW bA a with
  | none=>rw[hg]at h;cases h
  | some e =>obtain⟨he,rfl⟩:=dK h0 hg;have h1:=dX (hr.each e he);unfold anI at h1;simp at h1;exact h1.1
theorem Oq(a:aB aD):(bU a).length<=a.length:=nD a
theorem I4(a n:aB aD):(fH a n).length<=a.length+n.length+1:=by
 unfold fH;split
 ·omega
 ·simp;omega
theorem Iw(hr:du aH bA)(q:aB aD):((bW bA q).getD cR).text.size<=100:=by
 cases hg:bW bA q with
 | none=>exact(by decide:(0:aE)<=100)
 | some e=>
  by_cases h0:q=[]
  ·subst h0;rw[iE]at hg;cases hg;exact(by decide:(0:aE)<=100)
  ·obtain⟨he,_⟩:=dK h0 hg
   have h1:=hr.each e he;show e.text.size<=100;rcases gR 100 e.text.size with g|g
   ·unfold dv at h1;simp[g]at h1;repeat (split at h1<;>try omega)
   ·exact g
structure Ht (a:aB aD) (ns:aB (aB aD)) (h:aE):Prop where
 len:a.length<=100
 each:∀ n∈ns,n.length<=12
 num:ns.length<=(h+1)*81
 YT:h<=8
theorem go_ok(hr:du aH bA){cH:Bool}{a n:aB aD}{r:aB (aB aD)}{h:aE}(hw:Ht a (n::r) h)(h0:(qE bA cH a n r h).1=0):Ht (qE bA cH a n r h).2.1 (qE bA cH a n r h).2.2.1 (qE bA cH a n r h).2.2.2/\(9-(qE bA cH a n r h).2.2.2)*100+(qE bA cH a n r h).2.2.1.length<(9-h)*100+(n::r).length:=by
 have hn:=hw.each n (by simp);have Ss:∀ x∈r,x.length<=12:=fun x hx=>hw.each x (by simp[hx])
 have VI:=hw.num;have hh:=hw.YT;rw[cj]at VI;unfold qE at h0 ⊢;split
 ·rename_i h1;rw[aY h1]at h0;exact aG h0 h1
 ·rename_i h1
  have oq:=PC hr (Kf.1 h1);rw[aW h1]at h0;split
  ·exact⟨⟨bc (Oq a) (by omega),Ss,by simp only;omega,hh⟩,by simp⟩
  ·rename_i h2
   rw[aW h2]at h0;split
   ·rename_i h3
    rw[aY h3]at h0;split
    ·rename_i h4;rw[aY h4]at h0;cases h0
    ·rename_i h4
     rw[aW h4]at h0;split
     ·rename_i h5;rw[aY h5]at h0;exact aG h0 h5
     ·obtain⟨p1,p2⟩:=tz ((bW bA (fH a n)).getD cR).text.data.toList
      refine⟨⟨?_,fun x hx=>?_,?_,by simp only;omega⟩,?_⟩
      ·show(if sw _=aI then[]else a).length<=100
       split
       ·simp
       ·omega
      ·rcases bZ.1 hx with hx|hx
       ·exact p2 x hx
       ·exact Ss x hx
      ·simp only[cJ];omega
      ·simp only[cJ,cj];omega
   ·have:=I4 a n
    exact⟨⟨by simp only;omega,Ss,by simp only;omega,hh⟩,by simp⟩
end PM
end Go.Proofs.YtjnkfelecopbjaaGreatDoor
namespace Go.Proofs.YtjnkfelecopbjaaGreatDoor.LK
structure Lk where
 o:aF
 f:aF
 t:aF
 a:Bool
deriving DecidableEq,Inhabited
namespace KM
def rH(x:Lk):Prop:=0<=x.o/\x.o<4/\0<=x.f/\x.f<x.t/\x.t<=1000
instance (x:Lk):Decidable (rH x):=by unfold rH;infer_instance
def gq(x y:Lk):Bool:=decide (x.o≠y.o) && (x.a || y.a) && decide (x.f<y.t) && decide (y.f<x.t)
def xy(y x:Lk):Bool:=if y.o≠x.o then decide (y.o<x.o)else decide (y.t<x.f) || decide (y.t=x.f) && decide (y.a≠x.a)
def kC(ahead:aB Lk)(x:Lk):Bool:=
 match ahead.getLast? with
 | none=>aH
 | some y => !xy y x
def kq(ahead:aB Lk)(x:Lk):aF:=
 if ¬ rH x then 3 else if kC ahead x=aI then 2 else if ahead.any (gq x)then 8 else 0
def kz(ahead:aB Lk):aB Lk->aF × aF
 | []=>(0,0)
 | x::r=>if kq ahead x=0 then kz (ahead++[x]) r else(kq ahead x,ahead.length)
def eA(l:aB Lk):aF × aF:=if 40<l.length then(5,0)else kz [] l
theorem CO{l:aB Lk}{k:aE}{x:Lk}(h:l[k]?=some x):kz (l.take k) (l.drop k)=if kq (l.take k) x=0 then kz (l.take (k+1)) (l.drop (k+1))else(kq (l.take k) x,k):=by obtain⟨h1,h2⟩:=aQ.1 h;rw[cP h1,kz,h2,dC h1,h2,bL,eM (bM h1)]
theorem EO{l:aB Lk}{k:aE}(h:l.length<=k):kz (l.take k) (l.drop k)=(0,0):=by rw[cy h];rfl
def R(a b:Lk):Prop:=a.o<b.o\/(a.o=b.o/\(a.t<b.f\/(a.t=b.f/\a.a≠b.a)))
theorem wa(a b:Lk):xy a b=aI↔R a b:=by
 unfold xy R;by_cases h:a.o=b.o
 ·rw[aW (by simpa using h)]
  simp[h]
 ·rw[aY h]
  simp[h]
theorem R.trans{a b c:Lk}(hb:rH b)(h1:R a b)(h2:R b c):R a c:=by
 obtain⟨_,_,_,hb,_⟩:=hb;unfold R at *;rcases h1 with h1|⟨h1,h3⟩<;>rcases h2 with h2|⟨h2,h4⟩
 ·left;omega
 ·left;omega
 ·left;omega
 ·right
  refine⟨by omega,.inl ?_⟩;rcases h3 with h3|⟨h3,_⟩<;>rcases h4 with h4|⟨h4,_⟩<;>omega
def Has(l:aB Lk)(o k:aF)(b:Bool):Prop:=∃ y∈l,y.o=o/\y.f<=k/\k<y.t/\y.a=b
def FO(l:aB Lk):Prop:=∀ o o' k b b',o≠o'->Has l o k b->Has l o' k b'->b=aH/\b'=aH
structure jl (l:aB Lk):Prop where
 ok:∀ x∈l,rH x
 rises:l.Pairwise R
 no:FO l
theorem wE{x y:Lk}(hx:rH x)(hy:rH y):gq x y=aI↔x.o≠y.o/\(x.a=aI\/y.a=aI)/\∃ k,x.f<=k/\k<x.t/\y.f<=k/\k<y.t:=by
 obtain⟨_,_,_,h1,_⟩:=hx;obtain⟨_,_,_,h2,_⟩:=hy;simp only[gq,fh,ew,gZ];constructor
 ·rintro⟨⟨⟨a,b⟩,c⟩,d⟩
  refine⟨a,b,?_⟩;by_cases h:x.f<=y.f
  ·exact⟨y.f,h,d,mn _,h2⟩
  ·exact⟨x.f,mn _,h1,by omega,c⟩
 ·rintro⟨a,b,k,_,_,_,_⟩
  exact⟨⟨⟨a,b⟩,by omega⟩,by omega⟩
theorem KD(x y:Lk):gq x y=gq y x:=by
 rw[dN];simp only[gq,fh,ew,gZ];constructor
 ·rintro⟨⟨⟨a,b⟩,c⟩,d⟩;exact⟨⟨⟨fun e=>a e.symm,b.symm⟩,d⟩,c⟩
 ·rintro⟨⟨⟨a,b⟩,c⟩,d⟩;exact⟨⟨⟨fun e=>a e.symm,b.symm⟩,d⟩,c⟩
theorem vT{l:aB Lk}(lH:∀ x∈l,rH x):FO l↔∀ x∈l,∀ y∈l,gq x y=aH:=by
 constructor
 ·intro h x hx y hy
  rw[<- fY];intro hc;obtain⟨h1,h2,k,h3,h4,h5,h6⟩:=(wE (lH x hx) (lH y hy)).1 hc;obtain⟨e1,e2⟩:=h x.o y.o k x.a y.a h1 ⟨x,hx,rfl,h3,h4,rfl⟩ ⟨y,hy,rfl,h5,h6,rfl⟩;rcases h2 with h2|h2<;>simp_all
 ·rintro h o o' k b b' hne ⟨x,hx,rfl,h1,h2,rfl⟩ ⟨y,hy,rfl,h3,h4,rfl⟩
  have:=h x hx y hy;rw[<- fY]at this;by_cases ha:x.a=aI\/y.a=aI
  ·exact aG ((wE (lH x hx) (lH y hy)).2 ⟨hne,ha,k,h1,h2,h3,h4⟩) this
  ·simp only[not_or,fY]at ha;exact ha
theorem FZ{rest:aB Lk}:∀ {ahead:aB Lk},jl ahead->((kz ahead rest).1=0↔jl (ahead++rest)):=by
 induction rest with
 | nil=>intro ahead h;simp[kz,h]
 | cons x r ih=>
  intro ahead h;have hw:kq ahead x=0↔jl (ahead++[x]):=by
   unfold kq;constructor
   ·intro hh
    split at hh
    ·cases hh
    ·rename_i hx
     have hx:=Kf.1 hx;split at hh
     ·cases hh
     ·rename_i hl
      split at hh
      ·cases hh
      ·rename_i hc
       rw[fY]at hc;have lH:∀ y∈ahead++[x],rH y:=by
        intro y hy;rcases bZ.1 hy with hy|hy
        ·exact h.ok y hy
        ·simp at hy;rw[hy];exact hx
       have hR:∀ y∈ahead,R y x:=by
        intro y hy;cases uJ:ahead.getLast? with
        | none=>rw[WJ]at uJ;subst uJ;simp at hy
        | some z=>
         have hz:R z x:=(wa _ _).1 (by simpa[kC,uJ]using hl);obtain⟨pre,rfl⟩:=xP.1 uJ;rcases bZ.1 hy with hy|hy
         ·have:=(dA.1 h.rises).2.2 y hy z (by simp)
          exact this.trans (h.ok z (by simp)) hz
         ·simp at hy;rw[hy];exact hz
       refine⟨lH,dA.2 ⟨h.rises,by simp,fun a ha b hb=>by simp at hb;rw[hb];exact hR a ha⟩,(vT lH).2 ?_⟩;have Hd:∀ y∈ahead,gq x y=aH:=fun y hy=>by have:=ks.1 hc y hy;simpa using this
       intro a ha b hb;rcases bZ.1 ha with ha|ha<;>rcases bZ.1 hb with hb|hb
       ·exact(vT h.ok).1 h.no a ha b hb
       ·simp at hb;rw[hb,KD];exact Hd a ha
       ·simp at ha;rw[ha];exact Hd b hb
       ·simp at ha hb;rw[ha,hb];simp[gq]
   ·intro hr
    have hx:rH x:=hr.ok x (by simp);rw[aW (by simpa using hx)];have hR:=(dA.1 hr.rises).2.2;rw[aW,aW]
    ·rw[fY,ks]
     intro y hy;rw[fY];exact(vT hr.ok).1 hr.no x (by simp) y (by simp[hy])
    ·unfold kC
     split
     ·simp
     ·rename_i z uJ
      have hz:z∈ahead:=aeN uJ;have:=(wa z x).2 (hR z hz x (by simp));simp[this]
  rw[kz];by_cases h0:kq ahead x=0
  ·rw[aY h0,ih (hw.1 h0)];simp
  ·rw[aW h0]
   refine⟨fun hh=>aG hh h0,fun hh=>aG (hw.2 ?_) h0⟩;have e:ahead++x::r=(ahead++[x])++r:=by simp
   rw[e]at hh;refine⟨fun y hy=>hh.ok y (by simp at hy ⊢;rcases hy with hy|hy<;>simp[hy]),(dA.1 hh.rises).1,?_⟩;rintro o o' k b b' hne ⟨y,hy,hy'⟩ ⟨z,hz,Xl⟩;exact hh.no o o' k b b' hne ⟨y,pg _ hy,hy'⟩ ⟨z,pg _ hz,Xl⟩
theorem TC:jl []:=⟨by simp,by simp,by rintro o o' k b b' _ ⟨y,hy,_⟩;simp at hy⟩
theorem KK{l:aB Lk}:(eA l).1=0↔l.length<=40/\jl l:=by
 unfold eA;split
 ·rename_i h;simp;omega
 ·rename_i h
  rw[FZ TC];simp;omega
theorem EP(x:Lk):eA [x]=if rH x then(0,0)else(3,0):=by by_cases h:rH x<;>simp[eA,kz,kq,kC,h]
/-! ### Without -/
def oQ(y:Lk)(f t:aF):aB Lk:=if f<t then[⟨y.o,f,t,y.a⟩]else[]
def nZ(x y:Lk):aB Lk:=if y.o≠x.o then oQ y y.f y.t else oQ y y.f (min y.t x.f)++oQ y (max y.f x.t) y.t
def eE(l:aB Lk)(x:Lk):aB Lk:=l.flatMap (nZ x)
theorem qi{y z:Lk}{f t:aF}:z∈oQ y f t↔f<t/\z=⟨y.o,f,t,y.a⟩:=by unfold oQ;split<;>simp[*]
theorem ri{x y z:Lk}(h:z∈nZ x y):z.o=y.o/\y.f<=z.f/\z.f<z.t/\z.t<=y.t/\z.a=y.a/\(y.o=x.o->z.t<=x.f\/x.t<=z.f):=by
 unfold nZ at h;split at h
 ·rename_i hne
  obtain⟨h1,rfl⟩:=qi.1 h;exact⟨rfl,mn _,h1,mn _,rfl,fun e=>aG e hne⟩
 ·rcases bZ.1 h with h|h
  ·obtain⟨h1,rfl⟩:=qi.1 h
   simp only at *;exact⟨trivial,mn _,h1,by omega,trivial,fun _=>.inl (by omega)⟩
  ·obtain⟨h1,rfl⟩:=qi.1 h
   simp only at *;exact⟨trivial,by omega,h1,mn _,trivial,fun _=>.inr (by omega)⟩
theorem PJ{x y:Lk}(k:aF)(h1:y.f<=k)(h2:k<y.t)(h3:y.o=x.o->k<x.f\/x.t<=k):∃ z∈nZ x y,z.f<=k/\k<z.t:=by
 unfold nZ;split
 ·exact⟨_,qi.2 ⟨by omega,rfl⟩,h1,h2⟩
 ·rename_i h
  rcases h3 (Kf.1 h)with h3|h3
  ·exact⟨_,pg _ (qi.2 ⟨by omega,rfl⟩),h1,by simp only;omega⟩
  ·exact⟨_,adj _ (qi.2 ⟨by omega,rfl⟩),by simp only;omega,h2⟩
theorem sg(l:aB Lk)(x:Lk)(o k:aF)(b:Bool):Has (eE l x) o k b↔Has l o k b/\¬ (o=x.o/\x.f<=k/\k<x.t):=by
 constructor
 ·rintro⟨z,hz,rfl,h1,h2,rfl⟩
  obtain⟨y,hy,hz⟩:=mW.1 hz;obtain⟨e1,e2,e3,e4,e5,e6⟩:=ri hz;refine⟨⟨y,hy,e1.symm,by omega,by omega,e5.symm⟩,?_⟩;rintro⟨g1,g2,g3⟩;rcases e6 (e1.symm.trans g1)with h|h<;>omega
 ·rintro⟨⟨y,hy,rfl,h1,h2,rfl⟩,hn⟩
  obtain⟨z,hz,h3,h4⟩:=PJ (x:=x) k h1 h2 (fun e=>by
   rcases aaI k x.f with h|h
   ·exact .inl h
   ·rcases aaI k x.t with h'|h'
    ·exact aG ⟨e,h,h'⟩ hn
    ·exact .inr h')
  obtain⟨e1,e2,e3,e4,e5,e6⟩:=ri hz;exact⟨z,mW.2 ⟨y,hy,hz⟩,e1,h3,h4,e5⟩
theorem xJ{l:aB Lk}(h:jl l){x:Lk}(hx:rH x):jl (eE l x):=by
 obtain⟨_,_,_,hx,_⟩:=hx;refine⟨fun z hz=>?_,?_,?_⟩
 ·obtain⟨y,hy,hz⟩:=mW.1 hz
  obtain⟨e1,e2,e3,e4,e5,e6⟩:=ri hz;obtain⟨g1,g2,g3,g4,g5⟩:=h.ok y hy;exact⟨by omega,by omega,by omega,by omega,by omega⟩
 ·refine List.pairwise_flatMap.2 ⟨fun y hy=>?_,?_⟩
  ·unfold nZ
   split
   ·unfold oQ;split<;>simp
   ·refine dA.2 ⟨by unfold oQ;split<;>simp,by unfold oQ;split<;>simp,fun a ha b hb=>?_⟩
    obtain⟨h1,rfl⟩:=qi.1 ha;obtain⟨h2,rfl⟩:=qi.1 hb;exact .inr ⟨rfl,.inl (by simp only;omega)⟩
  ·refine h.rises.imp ?_
   intro a b hR u hu v hv;obtain⟨e1,e2,e3,e4,e5,_⟩:=ri hu;obtain⟨g1,g2,g3,g4,g5,_⟩:=ri hv;unfold R at *;rcases hR with h1|⟨h1,h2|⟨h2,h3⟩⟩
   ·left;omega
   ·right;exact⟨by omega,.inl (by omega)⟩
   ·right
    refine⟨by omega,?_⟩;rw[e5,g5];by_cases hq:u.t<v.f
    ·exact .inl hq
    ·exact .inr ⟨by omega,h3⟩
 ·intro o o' k b b' hne h1 h2
  exact h.no o o' k b b' hne ((sg l x o k b).1 h1).1 ((sg l x o' k b').1 h2).1
/-! ### Joined -/
def S(a b:Lk):Prop:=a.o<b.o\/(a.o=b.o/\a.t<=b.f)
def lI(out:aB Lk)(x:Lk):aB Lk:=
 match out.getLast? with
 | none=>out++[x]
 | some y=>if xy y x then out++[x]else out.set (out.length-1) { y with t:=x.t }
theorem R.s{a b:Lk}(h:R a b):S a b:=by
 unfold R S at *;rcases h with h|⟨h,h1|⟨h1,_⟩⟩
 ·exact .inl h
 ·exact .inr ⟨h,by omega⟩
 ·exact .inr ⟨h,by omega⟩
theorem JJ(pre:aB Lk)(y z:Lk):(pre++[y]).set ((pre++[y]).length-1) z=pre++[z]:=by simp
structure Joined (out l:aB Lk):Prop where
 ok:∀ x∈out,rH x
 rises:out.Pairwise R
 has:∀ o k b,Has out o k b↔Has l o k b
 len:out.length<=l.length
theorem lM(l m:aB Lk)(o k:aF)(b:Bool):Has (l++m) o k b↔Has l o k b\/Has m o k b:=by
 constructor
 ·rintro⟨y,hy,h⟩
  rcases bZ.1 hy with hy|hy
  ·exact .inl ⟨y,hy,h⟩
  ·exact .inr ⟨y,hy,h⟩
 ·rintro(⟨y,hy,h⟩|⟨y,hy,h⟩)
  ·exact⟨y,pg _ hy,h⟩
  ·exact⟨y,adj _ hy,h⟩
theorem ze(x:Lk)(o k:aF)(b:Bool):Has [x] o k b↔x.o=o/\x.f<=k/\k<x.t/\x.a=b:=by
 constructor
 ·rintro⟨y,hy,h⟩;simp at hy;rw[<- hy];exact h
 ·intro h;exact⟨x,by simp,h⟩
theorem Gr{out l:aB Lk}{x:Lk}(h:Joined out l)(hx:rH x)(hs:∀ y∈out,S y x):Joined (lI out x) (l++[x]):=by
 unfold lI;cases uJ:out.getLast? with
 | none=>
  rw[WJ]at uJ;subst uJ;simp only[fo];refine⟨by simpa using hx,by simp,fun o k b=>?_,by simp⟩;rw[lM,<- h.has];constructor
  ·exact .inr
  ·rintro(⟨y,hy,_⟩|h)
   ·simp at hy
   ·exact h
 | some y=>
  obtain⟨pre,rfl⟩:=xP.1 uJ;have YW:=dA.1 h.rises;have hy:=h.ok y (by simp);simp only;by_cases hr:xy y x=aI
  ·rw[aY hr]
   have Ny:=(wa _ _).1 hr;refine⟨?_,?_,fun o k b=>?_,by simp;have:=h.len;simp at this;omega⟩
   ·intro z hz
    rcases bZ.1 hz with hz|hz
    ·exact h.ok z hz
    ·simp at hz;rw[hz];exact hx
   ·refine dA.2 ⟨h.rises,by simp,fun a ha b hb=>?_⟩
    simp at hb;subst hb;rcases bZ.1 ha with ha|ha
    ·exact(YW.2.2 a ha y (by simp)).trans hy Ny
    ·simp at ha;rw[ha];exact Ny
   ·rw[lM _ [x],lM _ [x],h.has]
  ·rw[aW hr,JJ]
   have hnr:¬ R y x:=fun e=>hr ((wa _ _).2 e)
   have hS:=hs y (by simp);have e:y.o=x.o/\y.t=x.f/\y.a=x.a:=by
    unfold R at hnr;unfold S at hS;rcases hS with hS|⟨h1,h2⟩
    ·exact aG (.inl hS) hnr
    ·have h3:y.t=x.f:=by
      rcases aaI y.t x.f with h|h
      ·exact aG (.inr ⟨h1,.inl h⟩) hnr
      ·omega
     refine⟨h1,h3,?_⟩;exact xN fun hc=>hnr (.inr ⟨h1,.inr ⟨h3,hc⟩⟩)
   obtain⟨e1,e2,e3⟩:=e;obtain⟨x1,x2,x3,x4,x5⟩:=hx;obtain⟨y1,y2,y3,y4,y5⟩:=hy;refine⟨?_,?_,fun o k b=>?_,by simp;have:=h.len;simp at this;omega⟩
   ·intro z hz
    rcases bZ.1 hz with hz|hz
    ·exact h.ok z (by simp[hz])
    ·simp at hz;rw[hz];exact⟨y1,y2,y3,by simp only;omega,x5⟩
   ·refine dA.2 ⟨YW.1,by simp,fun a ha b hb=>?_⟩
    simp at hb;subst hb;have:=YW.2.2 a ha y (by simp);exact this
   ·rw[lM _ [x],<- h.has,lM,lM,ze,ze,ze,or_assoc]
    refine or_congr Iff.rfl ?_;simp only;rw[<- e1,<- e3];constructor
    ·rintro⟨g1,g2,g3,g4⟩
     by_cases hk:k<y.t
     ·exact .inl ⟨g1,g2,hk,g4⟩
     ·exact .inr ⟨g1,by omega,g3,g4⟩
    ·rintro(⟨g1,g2,g3,g4⟩|⟨g1,g2,g3,g4⟩)
     ·exact⟨g1,g2,by omega,g4⟩
     ·exact⟨g1,by omega,g3,g4⟩
theorem VX{out:aB Lk}{x z:Lk}(hz:∀ y∈out,S y z)(hxz:S x z)(hs:∀ y∈out,S y x):∀ y∈lI out x,S y z:=by
 unfold lI;cases uJ:out.getLast? with
 | none=>
  intro y hy;rcases bZ.1 hy with hy|hy
  ·exact hz y hy
  ·simp at hy;rw[hy];exact hxz
 | some y=>
  simp only;obtain⟨pre,rfl⟩:=xP.1 uJ;split
  ·intro u hu
   rcases bZ.1 hu with hu|hu
   ·exact hz u hu
   ·simp at hu;rw[hu];exact hxz
  ·rename_i hr
   rw[JJ];intro u hu;rcases bZ.1 hu with hu|hu
   ·exact hz u (by simp[hu])
   ·simp at hu
    subst hu;have hS:=hs y (by simp);have hnr:¬ R y x:=fun e=>hr ((wa _ _).2 e)
    unfold S R at *;rcases hS with h|⟨h,_⟩
    ·exact aG (.inl h) hnr
    ·simp only;rw[h];exact hxz
theorem A4:∀ (rest out l:aB Lk),Joined out l->(∀ x∈rest,rH x)->rest.Pairwise S->(∀ y∈out,∀ x∈rest,S y x)->Joined (rest.foldl lI out) (l++rest)
 | [],out,l,h,_,_,_=>by simpa using h
 | x::r,out,l,h,lH,hp,hs=>by
  obtain⟨D0,Hg⟩:=eJ.1 hp;have:=A4 r (lI out x) (l++[x]) (Gr h (lH x (by simp)) (fun y hy=>hs y hy x (by simp))) (fun y hy=>lH y (by simp[hy])) Hg
   (fun y hy z hz=>VX (fun u hu=>hs u hu z (by simp[hz])) (D0 z hz) (fun u hu=>hs u hu x (by simp)) y hy)
  simpa using this
def fH(l:aB Lk):aB Lk:=l.foldl lI []
theorem I3{l:aB Lk}(lH:∀ x∈l,rH x)(hp:l.Pairwise S):Joined (fH l) l:=by have:=A4 l [] [] ⟨by simp,by simp,fun _ _ _=>Iff.rfl,by simp⟩ lH hp (by simp);rw[fo]at this;exact this
def uU(a b:aF):aF:=if a<b then -1 else if b<a then 1 else 0
def vC(a b:Lk):aF:=if uU a.o b.o=0 then uU a.f b.f else uU a.o b.o
theorem M9(a b:aF):uU a b<0↔a<b:=by
 unfold uU;split
 ·omega
 ·split<;>omega
theorem EM(a b:aF):uU a b=0↔a=b:=by
 unfold uU;split
 ·omega
 ·split<;>omega
theorem Ce(a b:Lk):vC a b<0↔a.o<b.o\/(a.o=b.o/\a.f<b.f):=by
 unfold vC;split
 ·rename_i h;rw[EM]at h;rw[M9];omega
 ·rename_i h;rw[EM]at h;rw[M9];omega
def D(a b:Lk):Prop:=a.o=b.o->a.t<=b.f\/b.t<=a.f
theorem TQ{l m:aB Lk}(hp:l.Perm m)(hs:l.Pairwise fun a b=>¬ vC b a<0)(lH:∀ x∈m,rH x)(hd:m.Pairwise D):l.Pairwise S:=by
 have DV:l.Pairwise D:=(hp.pairwise_iff (fun{a b} (h:D a b)=>(fun e=>(h e.symm).symm:D b a))).2 hd;have abU:∀ x∈l,rH x:=fun x hx=>lH x (hp.mem_iff.1 hx)
 refine(List.Pairwise.imp_of_mem ?_ (DV.and hs));rintro a b ha hb ⟨h1,h2⟩;obtain⟨_,_,_,a4,_⟩:=abU a ha;obtain⟨_,_,_,b4,_⟩:=abU b hb;rw[Ce]at h2;unfold S D at *;by_cases e:a.o=b.o
 ·right
  refine⟨e,?_⟩;rcases h1 e with h|h
  ·exact h
  ·exact aG (.inr ⟨e.symm,by omega⟩) h2
 ·left;omega
theorem RU{l m:aB Lk}(hp:l.Perm m)(o k:aF)(b:Bool):Has l o k b↔Has m o k b:=by
 constructor
 ·rintro⟨y,hy,h⟩;exact⟨y,hp.mem_iff.1 hy,h⟩
 ·rintro⟨y,hy,h⟩;exact⟨y,hp.mem_iff.2 hy,h⟩
theorem R.d{a b:Lk}(h:R a b):D a b:=by
 intro e;rcases h with h|⟨_,h|⟨h,_⟩⟩
 ·omega
 ·exact .inl (by omega)
 ·exact .inl (by omega)
theorem Qm{l:aB Lk}{x:Lk}(h:jl (eE l x)):(eE l x++[x]).Pairwise D:=by
 refine dA.2 ⟨h.rises.imp R.d,by simp,fun a ha b hb=>?_⟩;simp at hb;subst hb;intro e;obtain⟨y,hy,hz⟩:=mW.1 ha;obtain⟨e1,e2,e3,e4,e5,e6⟩:=ri hz;rcases e6 (by omega)with h|h
 ·exact .inl h
 ·exact .inr h
theorem MG{l m:aB Lk}{x:Lk}(h:jl l)(hx:rH x)(hm:l.any (gq x)=aH)(hp:m.Perm (eE l x++[x]))(hs:m.Pairwise fun a b=>¬ vC b a<0):jl (fH m)/\∀ o k b,Has (fH m) o k b↔(Has l o k b/\¬ (o=x.o/\x.f<=k/\k<x.t))\/(x.o=o/\x.f<=k/\k<x.t/\x.a=b):=by
 have hw:=xJ h hx;have lH:∀ y∈eE l x++[x],rH y:=by
  intro y hy;rcases bZ.1 hy with hy|hy
  ·exact hw.ok y hy
  ·simp at hy;rw[hy];exact hx
 have hS:=TQ hp hs lH (Qm hw);have hJ:=I3 (fun y hy=>lH y (hp.mem_iff.1 hy)) hS;have hH:∀ o k b,Has (fH m) o k b↔(Has l o k b/\¬ (o=x.o/\x.f<=k/\k<x.t))\/(x.o=o/\x.f<=k/\k<x.t/\x.a=b):=by intro o k b;rw[hJ.has,RU hp,lM,sg,ze]
 refine⟨⟨hJ.ok,hJ.rises,?_⟩,hH⟩;have Us:∀ y∈l,gq x y=aH:=fun y hy=>by have:=ks.1 hm y hy;simpa using this
 have IK:∀ o k b,o≠x.o->Has l o k b->x.f<=k->k<x.t->b=aH/\x.a=aH:=by
  rintro o k b hne ⟨y,hy,rfl,h1,h2,rfl⟩ h3 h4;have hc:=Us y hy;rw[<- fY,wE hx (h.ok y hy)]at hc;by_cases ha:x.a=aI\/y.a=aI
  ·exact aG ⟨fun e=>hne e.symm,ha,k,h3,h4,h1,h2⟩ hc
  ·simp only[not_or,fY]at ha;exact⟨ha.2,ha.1⟩
 intro o o' k b b' hne h1 h2;rcases(hH _ _ _).1 h1 with⟨h1,_⟩|⟨h1,h3,h4,h5⟩<;>rcases(hH _ _ _).1 h2 with⟨h2,_⟩|⟨h2,h6,h7,h8⟩
 ·exact h.no o o' k b b' hne h1 h2
 ·have:=IK o k b (by omega) h1 h6 h7;exact⟨this.1,by rw[<- h8];exact this.2⟩
 ·have:=IK o' k b' (by omega) h2 h3 h4;exact⟨by rw[<- h5];exact this.2,this.1⟩
 ·omega
/-! ### Byte by byte -/
def qz(b:Bool):aF:=if b then 2 else 1
theorem Tg{P:Lk->Lk->Prop}(agl:∀ a b,P a b->P b a){l:aB Lk}(hp:l.Pairwise P){a b:Lk}(ha:a∈l)(hb:b∈l)(hne:a≠b):P a b:=by
 induction l with
 | nil=>simp at ha
 | cons x r ih=>
  obtain⟨h1,h2⟩:=eJ.1 hp;rcases cX.1 ha with e|ha<;>rcases cX.1 hb with g|hb
  ·exact aG (e.trans g.symm) hne
  ·rw[e];exact h1 b hb
  ·rw[g];exact agl _ _ (h1 a ha)
  ·exact ih h2 ha hb
theorem D.symm{a b:Lk}(h:D a b):D b a:=fun e=>(h e.symm).symm
theorem mem_unique{l:aB Lk}(h:jl l){y z:Lk}(hy:y∈l)(hz:z∈l){k:aF}(e:y.o=z.o)(a1:y.f<=k)(a2:k<y.t)(b1:z.f<=k)(b2:k<z.t):y=z:=by
 by_cases hyz:y=z
 ·exact hyz
 ·exfalso
  rcases Tg (fun a b h=>D.symm h) (h.rises.imp R.d) hy hz hyz e with h|h<;>omega
theorem KW{l:aB Lk}(h:jl l){o k:aF}{b b':Bool}(h1:Has l o k b)(h2:Has l o k b'):b=b':=by obtain⟨y,hy,rfl,a1,a2,rfl⟩:=h1;obtain⟨z,hz,e,b1,b2,rfl⟩:=h2;rw[mem_unique h hy hz e.symm a1 a2 b1 b2]
end KM
end Go.Proofs.YtjnkfelecopbjaaGreatDoor.LK
namespace Go.Proofs.YtjnkfelecopbjaaGreatDoor.LK.KM
variable{l:aB Lk}{x:Lk}
theorem Br:∀ (l m:aB Lk),(∀ x∈l,rH x)->(∀ x∈m,rH x)->l.Pairwise R->m.Pairwise R->(∀ o k b,Has l o k b↔Has m o k b)->l=m
 | [],[],_,_,_,_,_=>rfl
 | [],y::m,_,hm,_,_,h=>by obtain⟨_,_,_,h4,_⟩:=hm y (by simp);obtain⟨z,hz,_⟩:=(h y.o y.f y.a).2 ⟨y,by simp,rfl,mn _,h4,rfl⟩;simp at hz
 | x::l,[],hl,_,_,_,h=>by obtain⟨_,_,_,h4,_⟩:=hl x (by simp);obtain⟨z,hz,_⟩:=(h x.o x.f x.a).1 ⟨x,by simp,rfl,mn _,h4,rfl⟩;simp at hz
 | x::l,y::m,hl,hm,pl,pm,h=>by
  obtain⟨px,qA⟩:=eJ.1 pl;obtain⟨py,pm'⟩:=eJ.1 pm;have UH:=hl x (by simp);have hyo:=hm y (by simp);have hx4:x.f<x.t:=UH.2.2.2.1;have hy4:y.f<y.t:=hyo.2.2.2.1;have first:∀ (a:Lk) (r:aB Lk),rH a->(∀ z∈r,R a z)->∀ o k b,Has (a::r) o k b->a.o<o\/(a.o=o/\a.f<=k):=by
   rintro a r ha hr o k b ⟨z,hz,rfl,h1,h2,rfl⟩;have h4:a.f<a.t:=ha.2.2.2.1;rcases cX.1 hz with rfl|hz
   ·exact .inr ⟨rfl,h1⟩
   ·rcases hr z hz with h|⟨h,h'|⟨h',_⟩⟩
    ·exact .inl h
    ·exact .inr ⟨h,by omega⟩
    ·exact .inr ⟨h,by omega⟩
  have tJ:Has (x::l) x.o x.f x.a:=⟨x,by simp,rfl,mn _,hx4,rfl⟩
  have hy1:Has (y::m) y.o y.f y.a:=⟨y,by simp,rfl,mn _,hy4,rfl⟩
  have f1:=first y m hyo py _ _ _ ((h _ _ _).1 tJ)
  have f2:=first x l UH px _ _ _ ((h _ _ _).2 hy1)
  have eo:x.o=y.o:=by omega
  have ef:x.f=y.f:=by omega
  have only:∀ (a:Lk) (r:aB Lk),rH a->(∀ z∈r,R a z)->∀ k b,a.f<=k->k<a.t->Has (a::r) a.o k b->b=a.a:=by
   rintro a r ha hr k b h1 h2 ⟨z,hz,e,h3,h4,rfl⟩;rcases cX.1 hz with rfl|hz
   ·rfl
   ·exfalso
    rcases hr z hz with h|⟨_,h|⟨h,_⟩⟩<;>omega
  have ea:x.a=y.a:=only y m hyo py x.f x.a (by omega) (by omega) (by rw[<- eo];exact(h _ _ _).1 tJ);have ends:∀ (a b:Lk) (r s:aB Lk),rH a->(∀ z∈r,R a z)->a.o=b.o->a.f=b.f->a.a=b.a->(∀ o k c,Has (b::s) o k c->Has (a::r) o k c)->b.t<=a.t:=by
   intro a b r s ha hr e1 e2 e3 hh;apply xN;intro hc;have h4:a.f<a.t:=ha.2.2.2.1;obtain⟨z,hz,z1,z2,z3,z4⟩:=hh b.o a.t b.a ⟨b,by simp,rfl,by omega,by omega,rfl⟩;rcases cX.1 hz with rfl|hz
   ·omega
   ·rcases hr z hz with h|⟨_,h|⟨h,h5⟩⟩
    ·omega
    ·omega
    ·exact h5 (by rw[z4];exact e3)
  have et:x.t=y.t:=by have:=ends x y l m UH px eo ef ea (fun o k c hc=>(h o k c).2 hc);have:=ends y x m l hyo py eo.symm ef.symm ea.symm (fun o k c hc=>(h o k c).1 hc);omega
  have exy:x=y:=by obtain⟨a,b,c,d⟩:=x;obtain⟨a',b',c',d'⟩:=y;simp only at eo ef et ea;rw[eo,ef,et,ea]
  subst exy;have tail:∀ (a:Lk) (r s:aB Lk),rH a->(∀ z∈r,R a z)->(∀ o k c,Has (a::r) o k c->Has (a::s) o k c)->∀ o k c,Has r o k c->Has s o k c:=by
   rintro a r s ha hr hh o k c ⟨z,hz,rfl,h1,h2,rfl⟩;obtain⟨u,hu,e1,e2,e3,e4⟩:=hh z.o k z.a ⟨z,by simp[hz],rfl,h1,h2,rfl⟩;rcases cX.1 hu with rfl|hu
   ·exfalso
    rcases hr z hz with h|⟨_,h|⟨h,_⟩⟩<;>omega
   ·exact⟨u,hu,e1,e2,e3,e4⟩
  rw[Br l m (fun z hz=>hl z (by simp[hz])) (fun z hz=>hm z (by simp[hz])) qA pm' (fun o k b=>⟨tail x l m UH px (fun o k c=>(h o k c).1) o k b,tail x m l UH py (fun o k c=>(h o k c).2) o k b⟩)]
def nO(free:Bool)(l:aB Lk)(x:Lk)(m:aB Lk):Prop:=
 ∀ o k b,Has m o k b↔(Has l o k b/\¬ (o=x.o/\x.f<=k/\k<x.t))\/(free=aH/\x.o=o/\x.f<=k/\k<x.t/\x.a=b)
def jq(l:aB Lk)(x:Lk):aF:=if(eA l).1=0 then(if rH x then 0 else 3)else(eA l).1
theorem oA:jq l x=0↔(l.length<=40/\jl l)/\rH x:=by
 unfold jq;rw[<- KK];constructor
 ·intro h
  split at h
  ·rename_i h1
   split at h
   ·rename_i h2;exact⟨h1,h2⟩
   ·cases h
  ·rename_i h1;exact aG h h1
 ·rintro⟨h1,h2⟩
  rw[aY h1,aY h2]
def nP(free:Bool)(l:aB Lk)(x:Lk)(err:aF)(m:aB Lk):Prop:=
 (jq l x≠0/\err=jq l x/\m=[]) \/
 (jq l x=0/\free=aH/\l.any (gq x)=aI/\err=13/\m=[]) \/
 (jq l x=0/\(free=aI\/l.any (gq x)=aH)/\∃ m',jl m'/\nO free l x m'/\((40<m'.length/\err=5/\m=[])\/(m'.length<=40/\err=0/\m=m')))
theorem JM{free:Bool}{e e':aF}{m m':aB Lk}(h:nP free l x e m)(h':nP free l x e' m'):e=e'/\m=m':=by
 rcases h with⟨h1,h2,h3⟩|⟨h1,h2,h3,h4,h5⟩|⟨h1,h2,a,ha,hb,hc⟩<;>rcases h' with⟨g1,g2,g3⟩|⟨g1,g2,g3,g4,g5⟩|⟨g1,g2,a',ga,gb,gc⟩
 ·exact⟨h2.trans g2.symm,h3.trans g3.symm⟩
 ·exact aG g1 h1
 ·exact aG g1 h1
 ·exact aG h1 g1
 ·exact⟨h4.trans g4.symm,h5.trans g5.symm⟩
 ·rcases g2 with g2|g2
  ·rw[h2]at g2;cases g2
  ·rw[h3]at g2;cases g2
 ·exact aG h1 g1
 ·rcases h2 with h2|h2
  ·rw[g2]at h2;cases h2
  ·rw[g3]at h2;cases h2
 ·have:a=a':=Br a a' ha.ok ga.ok ha.rises ga.rises (fun o k b=>(hb o k b).trans (gb o k b).symm)
  subst this;rcases hc with⟨c1,c2,c3⟩|⟨c1,c2,c3⟩<;>rcases gc with⟨d1,d2,d3⟩|⟨d1,d2,d3⟩
  ·exact⟨c2.trans d2.symm,c3.trans d3.symm⟩
  ·omega
  ·omega
  ·exact⟨c2.trans d2.symm,c3.trans d3.symm⟩
theorem free_spec(h:jq l x=0):jl (eE l x)/\nO aI l x (eE l x):=by obtain⟨⟨_,hr⟩,hx⟩:=oA.1 h;refine⟨xJ hr hx,fun o k b=>?_⟩;rw[sg];simp
theorem P9{m:aB Lk}(h:jq l x=0)(hm:l.any (gq x)=aH)(hp:m.Perm (eE l x++[x]))(hs:m.Pairwise fun a b=>¬ vC b a<0):jl (fH m)/\nO aH l x (fH m):=by obtain⟨⟨_,hr⟩,hx⟩:=oA.1 h;obtain⟨h1,h2⟩:=MG hr hx hm hp hs;refine⟨h1,fun o k b=>?_⟩;rw[h2];simp
/-! ### aeQ who leave -/
def fu(l:aB Lk)(o:aF):aB Lk:=l.filter fun x => !decide (x.o=o)
end Go.Proofs.YtjnkfelecopbjaaGreatDoor.LK.KM
namespace Go.Proofs.YtjnkfelecopbjaaGreatDoor
open Go.RowKit PM Go.Sort
namespace PM
structure Cl where
 bE:aF
 owner:aF
 fd:aF
 n:aF
 m:aF
 bm:aA
 tw:aA
 text:aA
 alone:Bool
structure An where
 err:aF
 n:aF
 text:aA
 names:aB (aB aD)
structure Fl where
 bm:aA
 text:aA
 b9:aB LK.Lk
structure qI where
 cM:aE
 use:aF
 pos:aF
structure Sy where
 up:aB bP
 cq:aB (aB bP)
 bh:aB Fl
 bJ:aB qI
 fds:aE->Option aE
def Sy.all(s:Sy):aB (aB bP):=s.up::s.cq
def Sy.bA(s:Sy):aB bP:=cO s.all
def Sy.anK(s:Sy)(j:aE):aE:=((s.bJ[j]?).map (·.cM)).getD 0
def BJ(out:aB aE)(f:aE):aB aE:=if f∈out then out else out++[f]
def Sy.eH(s:Sy):aE->aB aE
 | 0=>[]
 | k+1=>match s.fds k with
  | none=>s.eH k
  | some j=>BJ (s.eH k) (s.anK j)
def Sy.cr(s:Sy):aB aE:=s.eH 32
def Sy.cQ(s:Sy)(f:Fl):aA:=if f.bm.data.toList=[]then f.text else((bW s.bA f.bm).getD cR).text
theorem tA(s:Sy):∀ k,(s.eH k).length<=k
 | 0=>by simp[Sy.eH]
 | k+1=>by
  have:=tA s k;rw[Sy.eH];split
  ·omega
  ·unfold BJ
   split
   ·omega
   ·simp;omega
theorem Js{s:Sy}{n:aE}(h:∀ k j,s.fds k=some j->s.anK j<n):∀ k,∀ f∈s.eH k,f<n
 | 0,f,hf=>by simp[Sy.eH]at hf
 | k+1,f,hf=>by
  have ih:=Js h k;rw[Sy.eH]at hf;split at hf
  ·exact ih f hf
  ·rename_i j hj
   unfold BJ at hf;split at hf
   ·exact ih f hf
   ·rcases bZ.1 hf with hf|hf
    ·exact ih f hf
    ·simp at hf;rw[hf];exact h k j hj
theorem sr(s:Sy):∀ k,(s.eH k).Nodup
 | 0=>by simp[Sy.eH]
 | k+1=>by
  have ih:=sr s k;rw[Sy.eH];split
  ·exact ih
  ·unfold BJ
   split
   ·exact ih
   ·rename_i hn
    rw[List.nodup_append];refine⟨ih,by simp,fun a ha b hb=>?_⟩;simp at hb;rw[hb];rintro rfl;exact hn ha
end PM
