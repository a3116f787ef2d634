import Derived.Test.YtjnkfelecopbjaaGreatDoorYA20
open Go.Value renaming int->aa,slice->ah,string->ai,pointer->aj,bool->aq
open Go.IntKind renaming i64->ag
open Go.RowKit renaming Below->au
open Go renaming World->aw,Aside->ax,Calls->ay,Value->az,Addr->aJ
open _root_ renaming ByteArray->aA,List->aB,Option->aC,UInt8->aD,Nat->aE,Int->aF,absurd->aG
open Option renaming none->aN,some->aO
set_option linter.all false
set_option maxHeartbeats 16000000
set_option maxRecDepth 100000
namespace Go.Proofs.YtjnkfelecopbjaaGreatDoor
open Go.RowKit PM Go.Sort
variable{a b:aA}{cn use:aF}{f:Fl}{i j k n:aE}{o:qI}{v v':az}
namespace PM
variable {s:Sy}
def Sy.XY(s:Sy)(a b:aA):Sy:={ s with bh:=s.bh.map (jM a b) }
theorem XZ(ha:¬ a.data.toList=[]):jM a b oU=oU:=by
 unfold jM;rw[aW];rintro(e|e)
 ·exact ha e.symm
 ·obtain⟨r,hr⟩:=(eB _ _ ha).1 e
  have:=congrArg List.length hr;simp[oU]at this
theorem Ic(ha:¬ a.data.toList=[]):s.eU.XY a b=(s.carry a b).eU:=by
 have hr:(s.carry a b).cr=s.cr:=ig (s:=s) (t:=s.carry a b) rfl (fun _=>rfl) 32;refine oV rfl rfl ?_ rfl rfl;show(s.bh.mapIdx fun i f=>if i∈s.cr then f else oU).map (jM a b)=(s.bh.mapIdx fun i f=>if i∈s.cr then jM a b f else f).mapIdx fun i f=>if i∈(s.carry a b).cr then f else oU
 rw[hr];apply dz;intro k;rw[cD,bO,bO,bO];cases s.bh[k]? with
 | none=>rfl
 | some f=>
  simp only[dF];by_cases hm:k∈s.cr
  ·simp only[aY hm]
  ·simp only[aW hm,XZ ha]
theorem LO{t:Sy}(hf:t.bh=s.bh)(hm:∀ i,i∈t.cr↔i∈s.cr):t.eU.bh=s.eU.bh:=by
 show(t.bh.mapIdx fun i f=>if i∈t.cr then f else oU)=s.bh.mapIdx fun i f=>if i∈s.cr then f else oU
 rw[hf];apply dz;intro k;rw[bO,bO];cases s.bh[k]? with
 | none=>rfl
 | some f=>
  simp only[dF];by_cases h:k∈s.cr
  ·rw[aY h,aY ((hm k).2 h)]
  ·rw[aW h,aW (fun e=>h ((hm k).1 e))]
theorem Rk{m:aE}(hn:n<32)(h0:s.fds n=aN)(hm:m<32)(h1:s.fds m=aO j):(s.dL n (aO j)).eU=s.eU.dL n (aO j):=by
 refine oV rfl rfl ?_ rfl rfl;refine LO (s:=s) (t:=s.dL n (aO j)) rfl fun i=>?_
 unfold Sy.cr;rw[iu,iu];constructor
 ·rintro⟨k,x,hk,h2,h3⟩
  have h2:(if k=n then aO j else s.fds k)=aO x:=h2;split at h2
  ·cases h2
   exact⟨m,j,hm,h1,h3⟩
  ·exact⟨k,x,hk,h2,h3⟩
 ·rintro⟨k,x,hk,h2,h3⟩
  refine⟨k,x,hk,?_,h3⟩;show(if k=n then aO j else s.fds k)=aO x;rw[aW (by rintro rfl;rw[h0]at h2;cases h2)];exact h2
theorem KE(hn:n<32)(h1:s.fds n=aO j)(f:Fl):((s.dL n aN).dQ (s.anK j) f).eU=if s.anK j∈((s.dL n aN).dQ (s.anK j) f).cr then(s.eU.dL n aN).dQ (s.anK j) f else((s.eU.dL n aN).dQ (s.anK j) f).dQ (s.anK j) oU:=by
 have hr:((s.dL n aN).dQ (s.anK j) f).cr=(s.dL n aN).cr:=ig (s:=s.dL n aN) (t:=(s.dL n aN).dQ (s.anK j) f) rfl (fun _=>rfl) 32;rw[hr];have hm:∀ i,i≠s.anK j->(i∈(s.dL n aN).cr↔i∈s.cr):=fun i hi=>by
  unfold Sy.cr;rw[iu,iu];constructor
  ·rintro⟨k,x,hk,h2,h3⟩
   have h2:(if k=n then aN else s.fds k)=aO x:=h2;split at h2
   ·cases h2
   ·exact⟨k,x,hk,h2,h3⟩
  ·rintro⟨k,x,hk,h2,h3⟩
   refine⟨k,x,hk,?_,h3⟩;show(if k=n then aN else s.fds k)=aO x;rw[aW (by rintro rfl;rw[h1]at h2;cases h2;exact hi h3.symm)];exact h2
 have key:((s.dL n aN).dQ (s.anK j) f).eU.bh=if s.anK j∈(s.dL n aN).cr then s.eU.bh.set (s.anK j) f else(s.eU.bh.set (s.anK j) f).set (s.anK j) oU:=by
  show((s.bh.set (s.anK j) f).mapIdx fun i g=>if i∈((s.dL n aN).dQ (s.anK j) f).cr then g else oU)=_;rw[hr];apply dz;intro k;rw[bO,eR];by_cases e:s.anK j=k
  ·subst e
   by_cases hl:s.anK j<s.bh.length
   ·rw[aY rfl,aY hl]
    by_cases h:s.anK j∈(s.dL n aN).cr
    ·simp[h,mN,hl]
    ·simp[h,mN,hl]
   ·rw[aY rfl,aW hl]
    split<;>simp[mN,hl]
  ·rw[aW e]
   have hx:s.eU.bh[k]?=(s.bh[k]?).map fun g=>if k∈s.cr then g else oU:=bO
   have hy:(if s.anK j∈(s.dL n aN).cr then s.eU.bh.set (s.anK j) f else(s.eU.bh.set (s.anK j) f).set (s.anK j) oU)[k]?=s.eU.bh[k]?:=by
    split
    ·rw[mo e]
    ·rw[mo e,mo e]
   rw[hy,hx];cases s.bh[k]? with
   | none=>rfl
   | some g=>
    simp only[dF];by_cases h:k∈s.cr
    ·rw[aY h,aY ((hm k (fun e'=>e e'.symm)).2 h)]
    ·rw[aW h,aW (fun e'=>h ((hm k (fun e''=>e e''.symm)).1 e'))]
 split
 ·rename_i h
  rw[aY h]at key;exact oV rfl rfl key rfl rfl
 ·rename_i h
  rw[aW h]at key;exact oV rfl rfl key rfl rfl
end PM
theorem vu.bB{W W':aw}{p:aC aJ}{l:aB Cl}(h:vu W p l)(hB:au W W W'):vu W' p l:=by
 rcases h with h|⟨b,off,hp,hb,hc⟩
 ·exact .inl h
 ·exact .inr ⟨b,off,hp,aZ hb hB.size,fun i c hi j v hv=>(hB.cell (p:=⟨b,off+i*9+j,aN⟩) hb).trans (hc i c hi j v hv)⟩
theorem Gl.up{W W':aw}(h:Gl W W)(hB:au W W W'):Gl W' W':=⟨aZ h.1 hB.size,(h.bB hB).2⟩
namespace PM
variable {s:Sy}{T:aA}
theorem KL(s:Sy){o':qI}(ho:s.bJ[j]?=aO o)(hf:o'.cM=o.cM)(k:aE):(s.jw j o').anK k=s.anK k:=by
 unfold Sy.anK Sy.jw;simp only;by_cases hk:j=k
 ·subst hk
  have gm:=(aQ.1 ho).1;rw[jt gm,ho];simp[hf]
 ·rw[mo hk]
theorem qK(s:Sy)(o:aE):(s.eF o).toNat<8:=by
 unfold Sy.eF;split
 ·rename_i k hk
  have:=gv hk;simp at this;simpa using this
 ·decide
end PM
namespace PM
def Sy.iz(s:Sy):Prop:=∀ (i k:aE) (f g:Fl),i∈s.cr->k∈s.cr->s.bh[i]?=aO f->s.bh[k]?=aO g->f.bm.data.toList=g.bm.data.toList->f.bm.data.toList≠[]->i=k
variable {s:Sy}
theorem Sy.iz.less{t:Sy}(h:s.iz)(hm:∀ i,i∈t.cr->i∈s.cr)(hp:∀ i g,i∈t.cr->t.bh[i]?=aO g->g.bm.data.toList≠[]->∃ f,s.bh[i]?=aO f/\f.bm.data.toList=g.bm.data.toList):t.iz:=fun i k f g hi hk hf hg he hn=>by obtain⟨f',hf',e1⟩:=hp i f hi hf hn;obtain⟨g',Ei,e2⟩:=hp k g hk hg (by rw[<- he];exact hn);exact h i k f' g' (hm i hi) (hm k hk) hf' Ei (by rw[e1,e2,he]) (by rw[e1];exact hn)
theorem Sy.iz.di(h:s.iz)(u:aB bP)(l:aB (aB bP)):(s.di u l).iz:=h
theorem Mf(i:aE)(f:Fl):(s.dQ i f).cr=s.cr:=ig (s:=s) (t:=s.dQ i f) rfl (fun _=>rfl) 32
theorem Sy.iz.dQ(h:s.iz){f':Fl}(hf:s.bh[i]?=aO f)(hp:f'.bm=f.bm\/f'.bm.data.toList=[]):(s.dQ i f').iz:=by
 refine h.less (fun k hk=>by rw[Mf]at hk;exact hk) fun k g hk hg hn=>?_
 have hg:(s.bh.set i f')[k]?=aO g:=hg;rcases qL hg with⟨rfl,rfl,_⟩|⟨_,hg⟩
 ·refine⟨f,hf,?_⟩
  rcases hp with e|e
  ·rw[e]
  ·exact aG e hn
 ·exact⟨g,hg,rfl⟩
theorem Sy.iz.UI(h:s.iz)(u:Fl->Fl)(l:aB aE)(hp:∀ f,(u f).bm=f.bm\/(u f).bm.data.toList=[]):(s.jS u l).iz:=by
 refine h.less (fun k hk=>?_) fun k g hk hg hn=>?_
 ·have hr:(s.jS u l).cr=s.cr:=ig (s:=s) (t:=s.jS u l) rfl (fun _=>rfl) 32
  rw[hr]at hk;exact hk
 ·have hg:(s.bh.mapIdx fun i f=>if i∈l then u f else f)[k]?=aO g:=hg
  rw[bO]at hg;obtain⟨f,hf,rfl⟩:=dM.1 hg;refine⟨f,hf,?_⟩;by_cases hk:k∈l
  ·simp only[aY hk]at hn ⊢
   rcases hp f with e|e
   ·rw[e]
   ·exact aG e hn
  ·simp only[aW hk]
theorem Sy.iz.anN(h:s.iz)(q:aA):(s.anN q).iz:=h.UI _ _ fun f=>by
 unfold Sy.oG;split
 ·exact .inr rfl
 ·exact .inl rfl
theorem Ie{x:bP}(hx:f.bm.data.toList=x.p):(jM a b f).bm.data.toList=(D4 a b x).p:=by
 unfold jM D4 jC;by_cases h:f.bm.data.toList=a.data.toList\/anG f.bm a.data.toList=true
 ·rw[aY h]
  have e:f.bm=x.bm:=fV hx;rw[aY (by rw[hx]at h;simpa using h)];show(b++f.bm.extract a.size f.bm.size).data.toList=(b++x.bm.extract a.size x.bm.size).data.toList;rw[e]
 ·rw[aW h]
  rw[hx]at h;rw[aW (by simpa using h)];exact hx
theorem Sy.iz.carry(h:s.iz){t:aB bP}(hm:tQ t a b)(hp:∀ i f,i∈s.cr->s.bh[i]?=aO f->f.bm.data.toList≠[]->f.bm.data.toList≠b.data.toList/\∃ x∈t,f.bm.data.toList=x.p):(s.carry a b).iz:=fun i k f g hi hk hf hg he hn=>by
 have hr:(s.carry a b).cr=s.cr:=ig (s:=s) (t:=s.carry a b) rfl (fun _=>rfl) 32;rw[hr]at hi hk;have hf:(s.bh.mapIdx fun i f=>if i∈s.cr then jM a b f else f)[i]?=aO f:=hf;have hg:(s.bh.mapIdx fun i f=>if i∈s.cr then jM a b f else f)[k]?=aO g:=hg;rw[bO]at hf hg;obtain⟨f0,O2,rfl⟩:=dM.1 hf;obtain⟨g0,hg0,rfl⟩:=dM.1 hg;simp only[aY hi,aY hk]at he hn;have ne0:∀ f1:Fl,(jM a b f1).bm.data.toList≠[]->f1.bm.data.toList≠[]:=fun f1 h1 e=>by
  have:jM a b f1=f1:=by
   unfold jM;rw[aW];rintro(e'|e')
   ·exact hm.Af (e'.symm.trans e)
   ·rw[e]at e'
    obtain⟨r,hr⟩:=(eB _ _ hm.Af).1 e';have:=congrArg List.length hr;simp at this
  rw[this]at h1;exact h1 e
 have hfn:=ne0 f0 hn;have VD:=ne0 g0 (by rw[<- he];exact hn);obtain⟨fb,x,hx,ex⟩:=hp i f0 hi O2 hfn;obtain⟨gb,y,hy,ey⟩:=hp k g0 hk hg0 VD;by_cases e:x.p=y.p
 ·exact h i k f0 g0 hi hk O2 hg0 (by rw[ex,ey,e]) hfn
 ·exact aG (by rw[<- Ie ex,<- Ie ey];exact he) (hm.inj hx hy (by rw[<- ex];exact fb) (by rw[<- ey];exact gb) e)
theorem Sy.iz.X8(h:s.iz)(n:aE):(s.dL n aN).iz:=h.less (fun i hi=>by
 unfold Sy.cr at hi ⊢;rw[iu]at hi ⊢;obtain⟨k,x,hk,h2,h3⟩:=hi;have h2:(if k=n then aN else s.fds k)=aO x:=h2;split at h2
 ·cases h2
 ·exact⟨k,x,hk,h2,h3⟩) fun i g _ hg _=>⟨g,hg,rfl⟩
theorem Sy.iz.X9(h:s.iz){m:aE}(hm:m<32)(h1:s.fds m=aO j):(s.dL n (aO j)).iz:=h.less (fun i hi=>by
 unfold Sy.cr at hi ⊢;rw[iu]at hi ⊢;obtain⟨k,x,hk,h2,h3⟩:=hi;have h2:(if k=n then aO j else s.fds k)=aO x:=h2;split at h2
 ·cases h2
  exact⟨m,j,hm,h1,h3⟩
 ·exact⟨k,x,hk,h2,h3⟩) fun i g _ hg _=>⟨g,hg,rfl⟩
theorem Sy.iz.jw(h:s.iz){o':qI}(ho:s.bJ[j]?=aO o)(hf:o'.cM=o.cM):(s.jw j o').iz:=by have hr:(s.jw j o').cr=s.cr:=ig (s:=s) (t:=s.jw j o') rfl (fun k=>KL s ho hf k) 32;exact h.less (fun i hi=>by rw[hr]at hi;exact hi) fun i g _ hg _=>⟨g,hg,rfl⟩
end PM
section
variable {s:Sy}
theorem PM.Sy.anJ.lt(h:s.anJ)(hi:i∈s.cr):i<s.bh.length:=by obtain⟨m,j,_,hj,e⟩:=iu.1 (show i∈s.eH 32 from hi);have hl:=h.v1 m j hj;have h2:=h.v2 j _ (aU hl);rw[Sy.anK,aU hl]at e;simp at e;omega
theorem ur(h:∀ m j,s.fds m=aO j->j<s.bJ.length)(hk:k∈((s.kP ⟨i,use,0⟩).dL n (aO s.bJ.length)).cr):k=i\/k∈s.cr:=by
 obtain⟨m,j,hm,h2,h3⟩:=iu.1 (show k∈Sy.eH _ 32 from hk);have h2:(if m=n then aO s.bJ.length else s.fds m)=aO j:=h2;have h3:(((s.bJ++[⟨i,use,0⟩])[j]?).map (·.cM)).getD 0=k:=h3;split at h2
 ·cases h2
  left;simpa using h3.symm
 ·right
  have hj:=h m j h2;refine iu.2 ⟨m,j,hm,h2,?_⟩;rw[bR hj]at h3;exact h3
theorem PM.Sy.iz.anR(hu:s.iz)(h:s.anJ)(q:aA)(use:aF)(n:aE):(s.anR q use n).iz:=by
 unfold Sy.anR Sy.anP;cases ho:s.um q with
 | some i=>
  have hi:i∈s.cr:=gv ho;exact hu.less (fun k hk=>by
   rcases ur h.v1 hk with e|e
   ·rw[e];exact hi
   ·exact e) fun i g _ hg _=>⟨g,hg,rfl⟩
 | none=>
  have hno:∀ k g,k∈s.cr->s.bh[k]?=aO g->g.bm.data.toList≠q.data.toList:=fun k g hk hg e=>by have:=nz.1 ho k hk;rw[Sy.pathOf,hg]at this;exact this (by simpa using e)
  have mq:∀ k,k∈(((s.kg ⟨q,⟨#[]⟩,[]⟩).kP ⟨s.bh.length,use,0⟩).dL n (aO (s.kg ⟨q,⟨#[]⟩,[]⟩).bJ.length)).cr->k=s.bh.length\/(k∈s.cr/\k<s.bh.length):=fun k hk=>by
   rcases ur (s:=s.kg ⟨q,⟨#[]⟩,[]⟩) h.v1 hk with e|e
   ·exact .inl e
   ·have e:k∈s.cr:=by
     rw[show(s.kg ⟨q,⟨#[]⟩,[]⟩).cr=s.cr from ig (s:=s) (t:=s.kg ⟨q,⟨#[]⟩,[]⟩) rfl (fun _=>rfl) 32]at e;exact e
    exact .inr ⟨e,h.lt e⟩
  intro i k f g hi hk hf hg he hn;have hf:(s.bh++[⟨q,⟨#[]⟩,[]⟩])[i]?=aO f:=hf;have hg:(s.bh++[⟨q,⟨#[]⟩,[]⟩])[k]?=aO g:=hg;rcases mq i hi with rfl|⟨hi,li⟩<;>rcases mq k hk with ek|⟨hk,lk⟩
  ·exact ek.symm
  ·rw[bR lk]at hg
   simp at hf;exact aG (by rw[<- he,<- hf]) (hno k g hk hg)
  ·rw[bR li]at hf
   rw[ek]at hg;simp at hg;exact aG (by rw[he,<- hg]) (hno i f hi hf)
  ·rw[bR li]at hf
   rw[bR lk]at hg;exact hu i k f g hi hk hf hg he hn
theorem PM.Sy.iz.open(hu:s.iz)(h:s.anJ){o:aE}{cp:aA}(ho:o<4)(he:s.gA o cn cp=0):(s.sG o cn cp).iz:=by
 unfold Sy.gA at he;split at he
 ·cases he
 split at he
 ·cases he
 split at he
 ·rename_i h1;exact aG he h1
 exact Sy.iz.anR (hu.di _ _) (h.ready he).1 _ _ _
theorem PM.Sy.iz.rename(hu:s.iz)(h:s.anJ)(he:s.n9 a b=0):(s.uM a b).iz:=by
 unfold Sy.n9 at he;split at he
 ·rename_i h1;exact aG he h1
 split at he
 ·rename_i h1;exact aG he h1
 split at he
 ·cases he
 rename_i hq;have hm:=(mF.1 he).2.1;have da:(fU (s.kH a)).data.toList=s.kH a:=by simp[fU]
 have ha:(fU (s.kH a)).data.toList≠[]:=fun e=>hq (.inl (by rw[<- da];exact e))
 unfold Sy.uM Sy.anS;refine Sy.iz.di ?_ _ _;by_cases e:(fU (s.kH a)).data.toList=(fU (s.kH b)).data.toList
 ·rw[aY e]
  exact hu.UI _ _ fun f=>.inl (by
   unfold jM;split
   ·rename_i hc
    exact CH e ha hc
   ·rfl)
 ·rw[aW e]
  refine(hu.anN _).carry (wQ hm e) fun i f hi hf hn=>?_
  rw[show(s.anN (fU (s.kH b))).cr=s.cr from ig (s:=s) (t:=s.anN (fU (s.kH b))) rfl (fun _=>rfl) 32]at hi;have hf:(s.bh.mapIdx fun i f=>if i∈s.cr then s.oG (fU (s.kH b)) f else f)[i]?=aO f:=hf;rw[bO]at hf;obtain⟨g,hg,e1⟩:=dM.1 hf;rw[aY hi]at e1;obtain⟨n,j,op,hl,_⟩:=h.leads hi hg;unfold Sy.oG at e1;split at e1
  ·rw[<- e1]at hn
   exact aG rfl hn
  ·rename_i Qv
   subst e1;refine⟨Qv,?_⟩;rcases(h.tY n j op g hl).2.2 with e0|⟨x,hx,_⟩
   ·exact aG e0 hn
   ·obtain⟨h1,h2⟩:=dK hn hx
    exact⟨x,h1,h2.symm⟩
theorem PM.Sy.iz.keep(hu:s.iz)(t:aA)(hf:s.bh[i]?=aO f):(s.eT i f t).iz:=by
 unfold Sy.eT;split
 ·exact hu
 split
 ·exact hu.dQ hf (.inl rfl)
 ·exact hu.di _ _
theorem PM.Sy.iz.on(hu:s.iz)(h:s.anJ){ow:aE}{ck cm:aF}{cx:aA}{ca:Bool}{op:qI}(ho:ow<4)(hk:k<8)(hl:s.ia (ow*8+k) j op f):(s.rV ow k ck cn cm cx ca j op f).2.1.iz:=by
 unfold Sy.rV;split
 ·exact(hu.X8 _).dQ hl.hfl (.inl rfl)
 split
 ·exact hu.X9 (by omega) hl.l6
 split
 ·exact hu.jw hl.gX rfl
 split
 ·exact hu.dQ hl.hfl (.inl rfl)
 split
 ·exact hu.dQ hl.hfl (.inl rfl)
 split
 ·exact hu.jw hl.gX rfl
 split
 ·show(s.wo j op f cx).iz
  unfold Sy.wo;exact(hu.keep _ hl.hfl).jw (o:=op) (by rw[pP];exact hl.gX) rfl
 ·exact hu.keep _ hl.hfl
theorem PM.Sy.iz.step(hu:s.iz)(h:s.anJ){c:Cl}(he:(s.je c).1=0):(s.je c).2.1.iz:=by
 unfold Sy.je at he ⊢;split
 ·exact hu
 rename_i e;rw[aW e]at he;split
 ·exact hu
 rename_i hw;rw[aW hw]at he;have ho:c.owner.toNat<4:=by omega
 split
 ·rename_i e
  rw[aY e]at he;exact hu.open h ho he
 rename_i e;rw[aW e]at he;split
 ·exact hu.di _ _
 rename_i e;rw[aW e]at he;split
 ·exact hu.di _ _
 rename_i e;rw[aW e]at he;split
 ·exact(hu.anN _).di _ _
 rename_i e;rw[aW e]at he;split
 ·rename_i e
  rw[aY e]at he;exact hu.rename h he
 split
 ·exact hu
 split
 ·exact hu
 unfold Sy.sF;split
 ·exact hu
 rename_i hf;split
 ·exact hu
 rename_i j hj;split
 ·exact hu
 rename_i op gX;split
 ·exact hu
 rename_i f hfl;exact hu.on h ho (by omega) ⟨hj,gX,hfl⟩
theorem PM.Sy.iz.anL(hu:s.iz)(h:s.anJ)(c:Cl):(s.anL c).1.iz:=by
 unfold Sy.anL;split
 ·rename_i e;exact hu.step h e
 ·exact hu
end
theorem MK(up:aB bP)(cq:aB (aB bP)):(fJ up cq).iz:=fun i k f g hi hk hf=>by simp[fJ]at hf
section
variable {aS:aE}{W W' w w5:aw}{B:aE}{s s':Sy}{L:ja}{v v':az}{qY:aB An}{row:aB Av}{G:aE->Prop}
theorem cW.JB(h:cW aS W B s L)(hk:cA (fun b=>L.ex b/\¬ gV B L b) W W')(hG:∀ b,G b->W.heap.size<=b/\b<W'.heap.size):cW aS W' B s { L with ex:=fun b=>G b\/L.ex b }:=by
 have hm:∀ b,gV B L b->W'.heap[b]?=W.heap[b]?:=fun b hb=>hk.block b (h.Mz (.inl hb)).2 fun e=>e.2 hb
 refine⟨(h.blk.same (hm B (.inl rfl))).as (tR rfl rfl rfl rfl rfl rfl rfl rfl rfl rfl),fw h.objs fun g hg=>hm g (.inr (.inl hg)),fw h.nC fun g hg=>hm g (.inr (.inr hg)),fun Y hY=>?_,h.num,h.up,h.low,h.sI,h.sJ,h.qo,h.pV,fun b hb=>?_,h.aS⟩
 ·have:=h.data Y ⟨bc hk.size hY.size,fun b hb hn=>(hY.block b (aZ hb hk.size) (fun e=>by
   rcases e with e|e|e
   ·exact hn (.inl e)
   ·have:=(hG b e).1;omega
   ·exact hn (.inr e))).trans (hk.block b hb fun e=>hn (.inr e.1))⟩
  exact⟨this.un,this.bA,this.b9⟩
 ·rcases hb with e|e
  ·exact⟨bc (bc h.aS (bM h.lt)) (hG b e).1,(hG b e).2⟩
  ·exact⟨(h.wF b e).1,aZ (h.wF b e).2 hk.size⟩
structure rW (aS:aE) (W:aw) (B:aE) (s:Sy) (L:ja) (v:az) (qY:aB An) (row:aB Av):Prop where
 at':cW aS W B s.eU L
 rows:kv W aS v row
 own:∀ g,v.ownBlock=aO g->L.ex g
 len:row.length=qY.length
 each:∀ (i:aE) (an:An) (y:Av),qY[i]?=aO an->row[i]?=aO y->QD (yJ B L) W an y
theorem rW.bB(h:rW aS W B s L v qY row)(hB:au W W W'):rW aS W' B s L v qY row:=by
 refine⟨h.at'.bB hB,h.rows.at (fun g hg=>?_),h.own,h.len,fun i an y h1 h2=>?_⟩
 ·obtain⟨_,eI,hh⟩:=h.rows.own hg
  exact hB.block g (aX.1 hh).1
 ·obtain⟨e1,e2,e3,bs,e4,e5,e6,e7,e8⟩:=h.each i an y h1 h2
  exact⟨e1,e2,e3,bs,e4,e5,e6,e7,e8.on (cA.dB _ hB)⟩
theorem rW.yL(h:rW aS W B s L v qY row){an:An}{p:aC aJ}{q:aE}{L4:ja}(q1:cW aS w B s'.eU L4)(q2:∀ b,yJ B L4 b->yJ B L b\/W.heap.size<=b)(q3:∀ b,L.ex b->L4.ex b)(q4:QD (yJ B L4) w an ⟨an.err,an.n,an.text,p,k,q⟩)(q5:cA (gV B L) W w):kv w aS v row/\(kv w5 aS v' (row++[⟨an.err,an.n,an.text,p,k,q⟩])->w.heap.size<=w5->(∀ b,b<w.heap.size->v.ownBlock≠aO b->w5.heap[b]?=w.heap[b]?)->(∀ g,v'.ownBlock=aO g->v.ownBlock=aO g\/w.heap.size<=g)->∃ L':ja,(∀ b,L.ex b->L'.ex b)/\rW aS w5 B s' L' v' (qY++[an]) (row++[⟨an.err,an.n,an.text,p,k,q⟩])):=by
 have IV:kv w aS v row:=h.rows.at fun g hg=>by obtain⟨_,eI,hh⟩:=h.rows.own hg;exact q5.block g (aX.1 hh).1 (h.at'.other hh (by decide) (by decide) (by decide))
 refine⟨IV,fun hR iL hk hg=>?_⟩;have hK:cA (fun b=>L4.ex b/\¬ gV B L4 b) w w5:=⟨iL,fun b hb hn=>hk b hb fun e=>hn ⟨q3 b (h.own b e),by
  obtain⟨_,eI,hh⟩:=IV.own e;exact q1.other hh (by decide) (by decide) (by decide)⟩⟩
 have kQ:∀ {F:aw->Prop},St (yJ B L4) w F->St (yJ B { L4 with ex:=fun b=>(v'.ownBlock=aO b/\w.heap.size<=b)\/L4.ex b }) w5 F:=fun hF Y hY=>hF Y ⟨bc iL hY.size,fun b hb hn=>(hY.block b (aZ hb iL) (fun e=>by
   rcases e with e|e|e
   ·exact hn (.inl e)
   ·omega
   ·exact hn (.inr e))).trans (hK.block b hb fun e=>hn (.inr e.1))⟩
 refine⟨{ L4 with ex:=fun b=>(v'.ownBlock=aO b/\w.heap.size<=b)\/L4.ex b },fun b hb=>.inr (q3 b hb),⟨q1.JB hK fun b hb=>⟨hb.2,?_⟩,hR,fun g Ei=>?_,by simp[h.len],fun i a y h1 h2=>?_⟩⟩
 ·obtain⟨_,eI,hh⟩:=hR.own hb.1
  exact(aX.1 hh).1
 ·rcases hg g Ei with e|hl
  ·exact .inr (q3 g (h.own g e))
  ·exact .inl ⟨Ei,hl⟩
 ·rcases lh h1 with⟨e,rfl⟩|⟨hi,h1⟩
  ·rcases lh h2 with⟨_,rfl⟩|⟨YH,_⟩
   ·obtain⟨e1,e2,e3,bs,e4,e5,e6,e7,e8⟩:=q4
    exact⟨e1,e2,e3,bs,e4,e5,e6,e7,kQ e8⟩
   ·have:=h.len;omega
  ·rcases lh h2 with⟨e,_⟩|⟨_,h2⟩
   ·have:=h.len;omega
   ·obtain⟨e1,e2,e3,bs,e4,e5,e6,e7,e8⟩:=h.each i a y h1 h2
    refine⟨e1,e2,e3,bs,e4,e5,e6,e7,kQ fun Y hY=>e8 Y ⟨bc q5.size hY.size,fun b hb hn=>(hY.block b (aZ hb q5.size) fun e=>(q2 b e).elim hn fun e=>by omega).trans (q5.block b hb fun e=>hn (.inl e))⟩⟩
theorem rW.write{R:aE}{eI:Array az}(h:rW aS W B s L v qY row)(hx:L.ex R)(hR:W.heap[R]?=aO (.cells eI 29 (0,0)))(hk:cA (fun b=>b=R) W W'):∃ L':ja,rW aS W' B s L' v qY row/\L'.y=L.y/\L'.lo=L.lo/\L'.pl=L.pl/\L'.cl=L.cl/\L'.ps=L.ps/\L'.sc=L.sc:=by
 have hn:=h.at'.other hR (by decide) (by decide) (by decide);refine⟨{ L with ex:=fun b=>False\/L.ex b },⟨h.at'.JB (G:=fun _=>False) (hk.pw fun b hb=>by rw[show b=R from hb];exact⟨hx,hn⟩) (fun b hb=>hb.elim),h.rows.at (fun g hg=>?_),fun g hg=>.inr (h.own g hg),h.len,fun i a y h1 h2=>?_⟩,rfl,rfl,rfl,rfl,rfl,rfl⟩
 ·obtain⟨_,c2,hh⟩:=h.rows.own hg
  refine hk.block g (aX.1 hh).1 (fun e=>?_);rw[show g=R from e,hR]at hh;injection hh with hh;injection hh with _ hh _;exact aG hh (by decide)
 ·obtain⟨e1,e2,e3,bs,e4,e5,e6,e7,e8⟩:=h.each i a y h1 h2
  exact⟨e1,e2,e3,bs,e4,e5,e6,e7,fun Y hY=>e8 Y ⟨bc hk.size hY.size,fun b hb hn=>(hY.block b (aZ hb hk.size) (fun e=>by
   rcases e with e|e|e
   ·exact hn (.inl e)
   ·exact e.elim
   ·exact hn (.inr e))).trans (hk.block b hb fun e=>hn (.inr (by rw[show b=R from e];exact hx)))⟩⟩
theorem rW.anO(h:rW aS W B s L v qY row):∃ pa na ac,v=ah pa na ac/\na=qY.length/\na<=ac/\(pa=aN->ac=0)/\sO W pa qY:=by
 obtain⟨J9,⟨hv,IL⟩|⟨g,cap,eI,hv,hg,hh,C6,hm,hcs,ht⟩⟩:=id h.rows
 ·have:qY=[]:=bX (by have:=h.len;omega)
  exact⟨aN,0,0,hv,by rw[this];rfl,aV _,fun _=>rfl,.inl this⟩
 ·refine⟨_,_,_,hv,h.len,C6,nofun,.inr ⟨g,rfl,(aX.1 hh).1,fun i a ha=>?_⟩⟩
  have hi:i<row.length:=by rw[h.len];exact(aQ.1 ha).1
  have hy:row[i]?=aO row[i]:=aU hi;obtain⟨e1,e2,e3,bs,e4,e5,e6,e7,e8⟩:=h.each i a _ ha hy;have hcell:∀ j u,(uV row[i])[j]?=aO u->W.cell? ⟨g,i*4+j,aN⟩=aO u:=fun j u hu=>by
   have:=xm h.rows (g:=g) (by rw[hv];rfl) (i*4+j) u (Iq hy hu)
   rwa [dG,dD]at this
  refine⟨row[i].p,row[i].c,bs,?_,?_,?_,?_,e5,e6,e7,e8.now⟩
  ·rw[<- e1];exact hcell 0 _ rfl
  ·rw[<- e2];exact hcell 1 _ rfl
  ·rw[<- e3];exact hcell 2 _ rfl
  ·rw[<- e4];exact hcell 3 _ rfl
end
theorem Ik:∀ (n:aE) (l:aB aE),l.Nodup->(∀ x∈l,x<n)->((List.range n).filter fun i=>decide (i∈l)).length=l.length:=by intro n l hd hl;refine List.Perm.length_eq ((U5 (dY _ List.nodup_range) hd).2 fun x=>?_);simp;exact hl x
def FV(s:Sy)(j:aE):aE:=((List.range j).filter fun i=>decide (i∈s.cr)).length
theorem Oj(s:Sy)(j:aE):FV s (j+1)=FV s j+if decide (j∈s.cr)=true then 1 else 0:=by unfold FV;rw[List.range_succ,eu,cJ];by_cases h:j∈s.cr<;>simp[h]
theorem Vg(s:Sy)(j:aE):FV s j<=j:=by
 have:=ed (fun i=>decide (i∈s.cr)) (List.range j)
 rwa [List.length_range]at this
theorem Rf{s:Sy}(hg:s.anJ):FV s s.bh.length=s.cr.length:=Ik _ _ (sr s 32) fun x hx=>by obtain⟨k,j,_,h1,h2⟩:=iu.1 hx;have hj:=hg.v1 k j h1;rw[<- h2];unfold Sy.anK;rw[aU hj];exact hg.v2 j _ (aU hj)
def Ua(s t:Sy):Prop:=t.bh.length<=s.bh.length+1/\t.bJ.length<=s.bJ.length+1
theorem Rp(s:Sy)(i:aE)(f:Fl)(t:aA):(s.eT i f t).bh.length=s.bh.length/\(s.eT i f t).bJ.length=s.bJ.length:=by
 unfold Sy.eT;split
 ·exact⟨rfl,rfl⟩
 ·split
  ·exact⟨fW,rfl⟩
  ·exact⟨rfl,rfl⟩
theorem Ya(s:Sy)(ow k:aE)(ck cn cm:aF)(cx:aA)(ca:Bool)(j:aE)(op:qI)(f:Fl):Ua s (s.rV ow k ck cn cm cx ca j op f).2.1:=by
 unfold Sy.rV Sy.wo Ua
 repeat' split
 all_goals simp[Sy.dQ,Sy.jw,Sy.dL,Rp]
theorem Vi(s:Sy)(ow:aE)(ck cf cn cm:aF)(cx:aA)(ca:Bool):Ua s (s.sF ow ck cf cn cm cx ca).2.1:=by
 unfold Sy.sF
 repeat' split
 all_goals first|exact Ya _ _ _ _ _ _ _ _ _ _ _|exact⟨qW _,qW _⟩
theorem Rq(s:Sy)(q:aA)(use:aF)(n:aE):Ua s (s.anR q use n):=by unfold Sy.anR Sy.anP Ua;split<;>simp[Sy.kP,Sy.kg,Sy.dL]
theorem Rs(s:Sy)(c:Cl):Ua s (s.je c).2.1:=by
 unfold Sy.je
 repeat' split
 all_goals first
  | exact⟨qW _,qW _⟩
  | exact Vi _ _ _ _ _ _ _ _
  | exact Rq (s.di _ _) _ _ _
  | (unfold Ua Sy.Et Sy.anN;simp[Sy.jS,Sy.di])
  | (unfold Ua Sy.uM Sy.anS;split<;>simp[Sy.jS,Sy.di,Sy.carry,Sy.anN])
theorem AE:∀ (l:aB Cl) (s:Sy),(s.run l).1.bh.length<=s.bh.length+l.length/\(s.run l).1.bJ.length<=s.bJ.length+l.length
 | [],s=>⟨aV _,aV _⟩
 | c::r,s=>by
  have h1:Ua s (s.anL c).1:=by
   unfold Sy.anL;split
   ·exact Rs s c
   ·exact⟨qW _,qW _⟩
  have h2:=AE r (s.anL c).1;unfold Ua at h1;show((s.anL c).1.run r).1.bh.length<=_/\((s.anL c).1.run r).1.bJ.length<=_;rw[cj];exact⟨by omega,by omega⟩
theorem JT:∀ (l:aB Cl) {s:Sy},s.anJ->s.iz->(s.run l).1.iz
 | [],s,_,h=>h
 | c::r,s,hg,h=>JT r (hg.anL c) (h.anL hg c)
namespace PM
def vV(fs:aB Fl)(k:aE):aB aD:=((fs[k]?.map Fl.bm).getD ⟨#[]⟩).data.toList
def mM(fs:aB Fl)(q:aB aD):aE->aF
 | 0 => -1
 | k+1=>if vV fs k=q then k else mM fs q k
def Sy.qN(t:Sy)(q:aA)(use:aF)(n:aE):Sy:=
 if mM t.bh q t.bh.length<0 then((t.kg ⟨q,⟨#[]⟩,[]⟩).kP ⟨t.bh.length,use,0⟩).dL n (aO t.bJ.length)
 else(t.kP ⟨(mM t.bh q t.bh.length).toNat,use,0⟩).dL n (aO t.bJ.length)
end PM
theorem Ax(fs:aB Fl)(q:aB aD):∀ k,(mM fs q k = -1/\∀ i,i<k->vV fs i≠q)\/∃ i:aE,i<k/\mM fs q k=i/\vV fs i=q
 | 0=>.inl ⟨rfl,fun i hi=>aG hi (uT _)⟩
 | k+1=>by
  rw[mM];by_cases e:vV fs k=q
  ·rw[aY e]
   exact .inr ⟨k,by omega,rfl,e⟩
  ·rw[aW e]
   rcases Ax fs q k with⟨h1,h2⟩|⟨i,h1,h2,h3⟩
   ·refine .inl ⟨h1,fun i hi=>?_⟩
    by_cases ei:i=k
    ·rw[ei];exact e
    ·exact h2 i (by omega)
   ·exact .inr ⟨i,by omega,h2,h3⟩
section
variable {s:Sy}
theorem I5(hu:s.iz)(h:s.anJ){q:aA}(hq:q.data.toList≠[]):(s.um q=aN/\mM s.eU.bh q s.eU.bh.length = -1)\/∃ i:aE,s.um q=aO i/\i∈s.cr/\mM s.eU.bh q s.eU.bh.length=i:=by
 rcases Ax s.eU.bh q s.eU.bh.length with⟨h1,h2⟩|⟨i,h1,h2,h3⟩
 ·left
  refine⟨?_,h1⟩;cases ho:s.um q with
  | none=>rfl
  | some i =>have hi:i∈s.cr:=gv ho;have hp:=uR ho;have hl:=h.lt hi;have hg:=vU (aU hl);have:=h2 i (by rw[mN];exact hl);rw[vV,hg,aY hi]at this;rw[Sy.pathOf,aU hl]at hp;exact aG (by simpa using hp) this
 ·right
  rw[mN]at h1;have hg:=vU (aU h1);rw[vV,hg]at h3;by_cases hi:i∈s.cr
  ·rw[aY hi]at h3
   have h3:(s.bh[i]).bm.data.toList=q.data.toList:=h3;refine⟨i,?_,hi,h2⟩;cases ho:s.um q with
   | none =>have:=nz.1 ho i hi;rw[Sy.pathOf,aU h1]at this;exact aG (by simpa using h3) this
   | some k=>
    have hk:k∈s.cr:=gv ho;have hp:=uR ho;have hl:=h.lt hk;rw[Sy.pathOf,aU hl]at hp;have hp:(s.bh[k]).bm.data.toList=q.data.toList:=by simpa using hp
    rw[hu i k _ _ hi hk (aU h1) (aU hl) (h3.trans hp.symm) (by rw[h3];exact hq)]
  ·rw[aW hi]at h3
   exact aG h3.symm hq
theorem xI(hn:n<32)(hf:s.fds n=aN)(h:∀ m j,s.fds m=aO j->j<s.bJ.length)(k:aE):k∈((s.kP ⟨i,use,0⟩).dL n (aO s.bJ.length)).cr↔k=i\/k∈s.cr:=by
 refine⟨ur h,?_⟩;rintro(e|e)
 ·subst e
  refine iu.2 ⟨n,s.bJ.length,hn,?_,?_⟩
  ·show(if n=n then aO s.bJ.length else s.fds n)=_
   rw[aY rfl]
  ·show(((s.bJ++[_])[s.bJ.length]?).map (·.cM)).getD 0=_
   simp
 ·obtain⟨m,j,hm,h2,h3⟩:=iu.1 (show k∈s.eH 32 from e)
  refine iu.2 ⟨m,j,hm,?_,?_⟩
  ·show(if m=n then aO s.bJ.length else s.fds m)=_
   rw[aW (fun e=>by rw[e,hf]at h2;cases h2)];exact h2
  ·show(((s.bJ++[_])[j]?).map (·.cM)).getD 0=_
   rw[bR (h m j h2)];exact h3
theorem Jj(hu:s.iz)(h:s.anJ){q:aA}(hq:q.data.toList≠[])(use:aF)(hn:n<32)(hf:s.fds n=aN):(s.anR q use n).eU=s.eU.qN q use n:=by
 unfold Sy.anR Sy.anP Sy.qN;rcases I5 hu h hq with⟨e1,e2⟩|⟨i,e1,hi,e2⟩
 ·rw[e1,e2,aY (by decide)]
  refine oV rfl rfl ?_ (by rw[mN];rfl) rfl;show((s.bh++[_]).mapIdx fun k g=>if k∈Sy.cr _ then g else oU)=(s.bh.mapIdx fun k g=>if k∈s.cr then g else oU)++[_];have hr:∀ k,k∈(((s.kg ⟨q,⟨#[]⟩,[]⟩).kP ⟨s.bh.length,use,0⟩).dL n (aO (s.kg ⟨q,⟨#[]⟩,[]⟩).bJ.length)).cr↔k=s.bh.length\/k∈s.cr:=fun k=>by rw[xI (s:=s.kg ⟨q,⟨#[]⟩,[]⟩) hn hf h.v1,show(s.kg ⟨q,⟨#[]⟩,[]⟩).cr=s.cr from ig (s:=s) (t:=s.kg ⟨q,⟨#[]⟩,[]⟩) rfl (fun _=>rfl) 32]
  rw[List.mapIdx_append];congr 1
  ·apply dz
   intro k;rw[bO,bO];cases hk:s.bh[k]? with
   | none=>rfl
   | some f=>
    have hl:=(aQ.1 hk).1;simp only[dF];congr 1;by_cases Cr:k∈s.cr
    ·rw[aY ((hr k).2 (.inr Cr)),aY Cr]
    ·rw[aW (fun x=>by rcases(hr k).1 x with x|x<;>first|exact Cr x|omega),aW Cr]
  ·show[if(0+s.bh.length)∈_ then _ else _]=_
   rw[aY ((hr _).2 (.inl (by omega)))]
 ·rw[e1,e2,aW (by omega)]
  refine oV rfl rfl ?_ rfl rfl;show(s.bh.mapIdx fun k g=>if k∈Sy.cr _ then g else oU)=s.bh.mapIdx fun k g=>if k∈s.cr then g else oU
  apply dz;intro k;rw[bO,bO];have hr:=xI (s:=s) (i:=i) (use:=use) hn hf h.v1 k;congr 1;funext f;by_cases Cr:k∈s.cr
  ·rw[aY (hr.2 (.inr Cr)),aY Cr]
  ·refine(aW fun x=>?_).trans (aW Cr).symm
   rcases hr.1 x with x|x
   ·exact Cr (x▸hi)
   ·exact Cr x
end
section
variable {s:Sy}
theorem yx(u:aB bP)(l:aB (aB bP)):(s.di u l).eU=s.eU.di u l:=rfl
theorem Tt{q:aB aD}(h:s.kE q use=0):q≠[]:=fun e=>by
 subst e;unfold Sy.kE at h;split at h
 ·cases h
 split at h
 ·cases h
 split at h
 ·cases h
 rename_i hk;exact hk ⟨rfl,rfl⟩
theorem Ji(hu:s.iz)(h:s.anJ){o:aE}{cp:aA}(ho:o<4)(he:s.gA o cn cp=0):(s.sG o cn cp).eU=(s.eU.di (s.jD (s.tL cn cp).2 cn) s.cq).qN (fU (s.tL cn cp).2) cn (o*8+(s.eF o).toNat):=by
 unfold Sy.gA at he;split at he
 ·cases he
 split at he
 ·cases he
 rename_i rR;split at he
 ·rename_i h1;exact aG he h1
 have hq:=Tt he;obtain⟨k,hk,e,hf⟩:∃ k,k<8/\(s.eF o).toNat=k/\s.fds (o*8+k)=aN:=by
  rcases qK s o with e|⟨k,hk,e,hf⟩
  ·omega
  ·exact⟨k,hk,by rw[e];rfl,hf⟩
 unfold Sy.sG;rw[e];rw[<- yx];exact Jj (hu.di _ _) (h.ready he).1 (by simpa[fU]using hq) cn (by omega) hf
end
theorem Zd:∃ i0,Tryz.prog.info? 98=aO i0/\i0.zero=aO (.agg #[ai ⟨#[]⟩,ai ⟨#[]⟩,ah aN 0 0])/\i0.size=3/\i0.bytes=56:=by
 have h:(Tryz.prog.info? 98).map (fun i=>(i.zero,i.size,i.bytes))=aO (aO (.agg #[ai ⟨#[]⟩,ai ⟨#[]⟩,ah aN 0 0]),3,56):=by kernel_rfl
 cases hi:Tryz.prog.info? 98 with
 | none=>rw[hi]at h;cases h
 | some i0 =>rw[hi]at h;simp only[dF,dt,jX]at h;exact⟨i0,rfl,h.1,h.2.1,h.2.2⟩
theorem Zc:∃ i0,Tryz.prog.info? 103=aO i0/\i0.zero=aO (.agg #[aa ag 0,aa ag 0,aa ag 0])/\i0.size=3/\i0.bytes=24:=by
 have h:(Tryz.prog.info? 103).map (fun i=>(i.zero,i.size,i.bytes))=aO (aO (.agg #[aa ag 0,aa ag 0,aa ag 0]),3,24):=by kernel_rfl
 cases hi:Tryz.prog.info? 103 with
 | none=>rw[hi]at h;cases h
 | some i0 =>rw[hi]at h;simp only[dF,dt,jX]at h;exact⟨i0,rfl,h.1,h.2.1,h.2.2⟩
theorem JD(w:aw)(a b c:az)(t:TypeId):∀ j u,[a,b,c][j]?=aO u->(w.alloc (.cells #[a,b,c] t)).cell? ⟨w,j,aN⟩=aO u:=by
 intro j u h
 match j with
 | 0|1|2=>simp at h;subst h;simp
 | j+3=>simp at h
theorem tv{w:aw}{aS:aE}{e:TypeId}{size:aE}{xs:aB az}(h:w.ownsRow aS e size v n xs):∃ p k c,v=ah p k c:=by
 rcases h.2 with⟨rfl,_⟩|⟨g,c,eI,rfl,_⟩
 ·exact⟨_,_,_,rfl⟩
 ·exact⟨_,_,_,rfl⟩
section
variable {P:Program}{o:Oper}{a:Act}{K:Act->aw->Prop}{Q:Exit->Act->aw->Prop}
theorem T8(w:aw)(s x:Operand)(t:TypeId)(ho:o.op=.call { callee:=.builtin .append,args:=#[s,x],argTypes:=#[t,t] })(aS:aE)(e:TypeId)(size bytes:aE)(z:az)(ht:P.underlying t=aO (.slice e))(hi:∃ i0,P.info? e=aO i0/\i0.zero=aO z/\i0.size=size/\i0.bytes=bytes)(hzs:z.cells.size=size)(iL:0<size)(v:az)(n:aE)(xs:aB az)(hs:a.eval s=v)(gG:w.ownsRow aS e size v n xs)(H:aE)(news:aB az)(hx:a.eval x=ah (aO H) 1 1)(hl:news.length=size)(abP:∀ j u,news[j]?=aO u->w.cell? ⟨H,j,aN⟩=aO u)(h1:∀ u∈news,u.oneCell'=true)(h63:n<=1000000)(hby:bytes<=1000)(eD:aS<=w)(h:∀ v' w',w'.ownsRow aS e size v' (n+1) (xs++news)->w.grownBy w' v.ownBlock->(v'.ownBlock=v.ownBlock\/v'.ownBlock=aO w.heap.size)->K (a.put o.dst v') w'):o.wp P a w K Q:=by obtain⟨i0,hi0,ou,mL,mh⟩:=hi;obtain⟨v',w',hr,h2,h3,_,h5⟩:=run_append_own_at (P:=P) w aS t o.type e i0 z size bytes ht hi0 ou mL mh hzs iL v n xs gG ⟨H,0,aN⟩ 1 1 news (by rw[hl];omega) (fun j u hu=>by rw[dG,dD];exact abP j u hu) h1 (by unfold maxLen;omega) (bc (Nat.mul_le_mul (Nat.add_le_add_right h63 1) hby) (by decide)) eD;unfold Oper.wp execOp;simp only[ho,resolve,invoke,builtin,lx,my,iQ,zW,iP,Kn,hs,hx,hr];exact h v' w' h2 h3 h5
theorem P6{ops:Array Oper}{E:Prop}{w:aw}(ly:o.guard=aN)(h:o.wp P a w K Q):if Region.wanted o (yielded ops a.tmps)=true then Oper.wp P o a w K Q else E:=by rw[aY (by simp[Region.wanted,ly])];exact h
end
section
variable {aS:aE}{W Z X:aw}{B:aE}{s:Sy}{L:ja}
theorem cW.Xt(h:cW aS W B s L)(hZ:W.heap.size<=Z)(hv:L.vo=v\/L.vd=v)(sN:v'.ownBlock=v.ownBlock\/v'.ownBlock=aO Z.heap.size)(g:aE)(hg:v'.ownBlock=aO g):g≠B/\(v.ownBlock=aO g\/W<=g):=by
 rcases sN with e|e
 ·rw[e]at hg
  exact⟨h.rJ (by rcases hv with rfl|rfl;exact .inl hg;exact .inr hg),.inl hg⟩
 ·rw[e]at hg
  cases hg;exact⟨fun e=>by have:=h.lt;omega,.inr hZ⟩
theorem cW.Zk(h:cW aS W B s L)(ho:s.bJ[j]?=aO o){g c:aE}(hv:L.vd=ah (aO g) s.bJ.length c)(n:aF):iU aS B (s.jw j { o with pos:=n }) L W (W.setCell ⟨g,j*3+2,aN⟩ (aa ag n)):=by obtain⟨h1,h2⟩:=h.pos ho hv n;exact⟨⟨L,h1,fun b hb=>.inl hb,rfl⟩,(aR aS W).setCell (p:=⟨g,j*3+2,aN⟩) (h.nC.lt g (by rw[hv];rfl)).1 _,h2⟩
theorem cW.kg(h:cW aS W B s L)(q:aA)(hZ:au W W Z)(gG:X.ownsRow aS 98 3 v' (s.bh.length+1) (L.ov.flatMap yV++[ai q,ai ⟨#[]⟩,ah aN 0 0]))(hg:Z.grownBy X L.vo.ownBlock)(sN:v'.ownBlock=L.vo.ownBlock\/v'.ownBlock=aO Z.heap.size):iU aS B (s.kg ⟨q,⟨#[]⟩,[]⟩) L W (X.setCell ⟨B,3,aN⟩ v'):=by
 have hk:cA (fun b=>L.vo.ownBlock=aO b) W X:=⟨bc hZ.size hg.size,fun b hb hn=>(hg.block b (aZ hb hZ.size) (fun e=>hn e.symm)).trans (hZ.block b hb)⟩
 obtain⟨g1,g2,g3⟩:=h.acM hk;have hn:∀ g,g≠B->(X.setCell ⟨B,3,aN⟩ v').heap[g]?=X.heap[g]?:=fun g hg=>cI _ _ _ _ hg
 have hK:cA (gV B L) W (X.setCell ⟨B,3,aN⟩ v'):=g3.trans (cA.set (.inl rfl) _ _ _);have hw:=h.Xt hZ.size (.inl rfl) sN;have qt:∀ b,gV B { L with vo:=v',ov:=L.ov++[⟨q,⟨#[]⟩,aN,0,0⟩] } b->gV B L b\/W.heap.size<=b:=by
  rintro b (e|e|e)
  ·exact .inl (.inl e)
  ·exact(hw b e).2.imp (fun e=>.inr (.inl e)) id
  ·exact .inl (.inr (.inr e))
 refine⟨⟨{ L with vo:=v',ov:=L.ov++[⟨q,⟨#[]⟩,aN,0,0⟩] },h.of hK ((g1.put 3 v').as fun i _=>?_) ?_ (fw g2 fun g hg=>hn g (h.rJ (.inr hg))) qt (fun Y hY _=>⟨(h.data Y hY).un,(h.data Y hY).bA,fun i f hf=>?_⟩) ?_ h.up h.low h.sI h.sJ h.qo (fun o ho=>?_) rfl,qt,rfl⟩,?_,hK⟩
 ·match i with
  | 0|1|2|3|4=>rfl
  | k+5=>rfl
 ·show World.ownsRow _ _ _ _ v' (s.bh++[_]).length ((L.ov++[_]).flatMap yV)
  rw[cJ,uZ];exact fw gG fun g hg=>hn g (hw g hg).1
 ·have hf:(s.bh++[_])[i]?=aO f:=hf
  show ∃ x,(L.ov++[_])[i]?=aO x/\_;rcases gR i s.bh.length with hi|hi
  ·rw[bR hi]at hf
   obtain⟨x,hx,hr⟩:=(h.data Y hY).b9 i f hf;exact⟨x,by rw[bR (by rw[h.num];exact hi)];exact hx,hr⟩
  ·rw[cg hi]at hf
   obtain⟨hj,rfl⟩:i-s.bh.length=0/\f=⟨q,⟨#[]⟩,[]⟩:=by
    rcases hz:i-s.bh.length with _|j
    ·rw[hz]at hf;exact⟨rfl,by simpa using hf.symm⟩
    ·rw[hz]at hf;simp at hf
   exact⟨⟨q,⟨#[]⟩,aN,0,0⟩,by rw[cg (by rw[h.num];exact hi),h.num,hj];rfl,rfl,rfl,rfl,.inl rfl,aV _,fun _=>rfl⟩
 ·show(L.ov++[_]).length=(s.bh++[_]).length
  simp[h.num]
 ·show o.cM<(s.bh++[_]).length
  have:=h.pV o ho;simp;omega
 ·exact((hZ.mono (bc h.aS (bM h.lt))).grown hg (by have:=hZ.size;have:=h.aS;have:=h.lt;omega) (fun k hk=>(h.objs.lt k hk).1)).setCell (p:=⟨B,3,aN⟩) h.aS _
theorem cW.kP(h:cW aS W B s L)(Pb:n<32)(o:qI)(ho:o.cM<s.bh.length)(hz:cA (·=B) W Z)(zO:oI Z B fun j=>if j=5+n then aa ag (s.bJ.length:aF)else cellW s L j)(Sd:au aS W Z)(gG:X.ownsRow aS 103 3 v' (s.bJ.length+1) (s.bJ.flatMap yU++yU o))(hg:Z.grownBy X L.vd.ownBlock)(sN:v'.ownBlock=L.vd.ownBlock\/v'.ownBlock=aO Z.heap.size):iU aS B ((s.kP o).dL n (aO s.bJ.length)) L W (X.setCell ⟨B,4,aN⟩ v'):=by
 have hw:=h.Xt hz.size (.inr rfl) sN;have qt:∀ b,gV B { L with vd:=v' } b->gV B L b\/W.heap.size<=b:=by
  rintro b (e|e|e)
  ·exact .inl (.inl e)
  ·exact .inl (.inr (.inl e))
  ·exact(hw b e).2.imp (fun e=>.inr (.inr e)) id
 have hk:cA (fun b=>b=B\/L.vd.ownBlock=aO b) W X:=⟨bc hz.size hg.size,fun b hb hn=>(hg.block b (aZ hb hz.size) (fun e=>hn (.inr e.symm))).trans (hz.block b hb (fun e=>hn (.inl e)))⟩
 have hn:∀ g,g≠B->(X.setCell ⟨B,4,aN⟩ v').heap[g]?=X.heap[g]?:=fun g hg=>cI _ _ _ _ hg
 have hK:cA (gV B L) W (X.setCell ⟨B,4,aN⟩ v'):=(hk.pw fun b hb=>hb.imp id .inr).trans (cA.set (.inl rfl) _ _ _);have Yt:oI X B fun j=>if j=5+n then aa ag (s.bJ.length:aF)else cellW s L j:=zO.same (hg.block B (aZ h.lt hz.size) (fun e=>h.rJ (.inr e.symm) rfl))
 refine⟨⟨{ L with vd:=v' },h.of hK ((Yt.put 4 v').as fun i _=>?_) (fw h.objs fun g hg=>(hn g (h.rJ (.inl hg))).trans (hk.block g (h.objs.lt g hg).2 (fun e=>e.elim (h.rJ (.inl hg)) (h.apart hg)))) ?_ qt (fun Y hY _=>⟨(h.data Y hY).un,(h.data Y hY).bA,(h.data Y hY).b9⟩) h.num h.up h.low h.sI h.sJ (fun k j hk=>?_) (fun x hx=>?_) rfl,qt,rfl⟩,?_,hK⟩
 ·match i with
  | 0|1|2|3=>exact(aW (by omega)).trans (aW (by omega))
  | 4=>rfl
  | k+5=>
   show(if k+5=4 then v' else if k+5=5+n then _ else Value.int .i64 (DT s k))=aa ag (DT ((s.kP o).dL n (aO s.bJ.length)) k);rw[aW (by omega)];unfold DT Sy.dL Sy.kP;simp only;by_cases e:k=n
   ·rw[aY (by omega),aY e]
   ·rw[aW (by omega),aW e]
 ·show World.ownsRow _ _ _ _ v' (s.bJ++[_]).length ((s.bJ++[_]).flatMap yU)
  rw[cJ,uZ];refine fw ?_ fun g hg=>hn g (hw g hg).1
  simpa using gG
 ·have hk:(if k=n then aO s.bJ.length else s.fds k)=aO j:=hk
  show j<(s.bJ++[_]).length;rw[cJ];split at hk
  ·cases hk;simp
  ·have:=h.qo k j hk;omega
 ·have hx:x∈s.bJ++[o]:=hx
  rcases bZ.1 hx with e|e
  ·exact h.pV x e
  ·simp at e;rw[e];exact ho
 ·exact(Sd.grown hg (by have:=hz.size;have:=h.aS;have:=h.lt;omega) (fun k hk=>(h.nC.lt k hk).1)).setCell (p:=⟨B,4,aN⟩) h.aS _
variable {c:Cl}{w:aw}{L1:ja}
theorem gL.mid(HO:gL aS B s L W c w)(h:cW aS w B s L1)(hz:Z.heap=(w.setCell ⟨B,5+n,aN⟩ v).heap):oI Z B (fun j=>if j=5+n then v else cellW s L1 j)/\cA (·=B) w Z/\Z.heap[W.heap.size]?=aO (.cells #[aa ag c.bE, aa ag c.owner, aa ag c.fd, aa ag c.n, aa ag c.m, ai c.bm, ai c.tw, ai c.text, aq c.alone] 51)/\Z.heap[W.heap.size+1]?=aO (.cells #[aa ag 0,aa ag 0,ai ⟨#[]⟩,ah aN 0 0] 38)/\Z.ownsRow aS 103 3 L1.vd s.bJ.length (s.bJ.flatMap yU):=by
 have hk:cA (·=B) w Z:=⟨by rw[hz];simp[World.setCell],fun b hb hn=>by rw[hz];exact cI _ _ _ _ hn⟩
 exact⟨(h.blk.put (5+n) v).same (by rw[hz]),hk,(hk.block _ (aX.1 HO.box).1 (fun e=>h.other HO.box (by decide) (by decide) (by decide) (.inl e))).trans HO.box,(hk.block _ (aX.1 HO.gz).1 (fun e=>h.other HO.gz (by decide) (by decide) (by decide) (.inl e))).trans HO.gz,fw h.nC fun g hg=>hk.block g (h.nC.lt g hg).2 (h.rJ (.inr hg))⟩
theorem gL.anR(HO:gL aS B s L W c w)(a:cW aS w B s L1/\(∀ b,gV B L1 b->gV B L b\/W.heap.size<=b)/\L1.ex=fun b=>b=W.heap.size+1\/L.ex b)(hn:n<32)(o:qI)(ho:o.cM<s.bh.length){Y:aw}(hz:Z.heap=(w.setCell ⟨B,5+n,aN⟩ (aa ag (s.bJ.length:aF))).heap)(hl:au aS w Z)(hY:au Z Z Y)(gG:X.ownsRow aS 103 3 v' (s.bJ.length+1) (s.bJ.flatMap yU++yU o))(hg:Y.grownBy X L1.vd.ownBlock)(sN:v'.ownBlock=L1.vd.ownBlock\/v'.ownBlock=aO Y.heap.size):gL aS B ((s.kP o).dL n (aO s.bJ.length)) L W c (X.setCell ⟨B,4,aN⟩ v')/\X.cell? ⟨B,4,aN⟩=aO L1.vd/\X.frozen? ⟨B,4,aN⟩=false:=by obtain⟨m1,m2,_,_,m5⟩:=HO.mid a.1 hz;have hB:B<Z.heap.size:=aZ a.1.lt m2.size;have hbY:oI Y B _:=m1.same (hY.block B hB);have Yt:oI X B _:=hbY.same (hg.block B (aZ hB hY.size) (fun e=>a.1.rJ (.inr e.symm) rfl));refine⟨HO.step a (a.1.kP hn o ho (m2.trans (cA.dB _ hY)) hbY (hl.trans (hY.mono (bc a.1.aS (bM hB)))) gG hg sN),?_,Yt.EW 4⟩;rw[Yt.cell (i:=4) (by decide)];exact congrArg aO (aW (by omega))
end
structure yH (bA:aB bP) (cH:Bool) (W:aw) (R:aF × aB aD) (a:aA) (p:aC aJ) (bs:aB aA) (c h:aE) (X:aw):Prop where
 anO:jy X p bs
 cap:bs.length<=c
 nil:p=aN->c=0
 ok:Ht a (bs.map (·.data.toList)) h
 eq:∃ g,(9-h)*100+bs.length<=g/\R=nK bA cH g a (bs.map (·.data.toList)) h
 below:au W W X
section
variable {bA:aB bP}{cH:Bool}{W:aw}{R:aF × aB aD}{a:aA}{p:aC aJ}{x:aA}{bs:aB aA}{c h:aE}{X Y:aw}
theorem yH.next(hr:du false bA)(I:yH bA cH W R a p (x::bs) c h X){a':aA}{p':aC aJ}{bs':aB aA}{c' h':aE}{na:aB aD}{nb:aB (aB aD)}(vh:qE bA cH a x (bs.map (·.data.toList)) h=(0,na,nb,h'))(ha:a'.data.toList=na)(hb:bs'.map (·.data.toList)=nb)(hl:jy Y p' bs')(hc:bs'.length<=c')(hn:p'=aN->c'=0)(hB:au X X Y):yH bA cH W R a' p' bs' c' h' Y/\(9-h')*100+bs'.length<(9-h)*100+(bs.length+1):=by
 obtain⟨o1,o2⟩:=go_ok hr (cH:=cH) I.ok (by rw[vh]);rw[vh]at o1 o2;simp only at o1 o2;have hlen:bs'.length=nb.length:=by rw[<- hb,bQ]
 simp only[cj,bQ]at o2;obtain⟨g,hg,hR⟩:=I.eq;rw[cj]at hg;refine⟨⟨hl,hc,hn,by rw[ha,hb];exact o1,?_,Below.bK I.below hB⟩,by omega⟩;obtain⟨g',rfl⟩:∃ g',g=g'+1:=⟨g-1,by omega⟩
 rw[iP,pQ,vh,aY rfl]at hR;exact⟨g',by omega,by rw[ha,hb];exact hR⟩
theorem yH.bad(I:yH bA cH W R a p (x::bs) c h X){e:aF}(he:¬ e=0)(hz:(qE bA cH a x (bs.map (·.data.toList)) h).1=e):R.1=e:=by
 obtain⟨g,hg,hR⟩:=I.eq;rw[cj]at hg;obtain⟨g',rfl⟩:∃ g',g=g'+1:=⟨g-1,by omega⟩
 rw[iP,pQ,hz,aW he]at hR;rw[hR]
theorem yH.lost(I:yH bA cH W R a p (x::bs) c h X)(vh:qE bA cH a x (bs.map (·.data.toList)) h=(0,fH a x.data.toList,bs.map (·.data.toList),h))(hm:bW bA (fH a x)=aN)(hb:bs≠[]):R.1=6:=by
 obtain⟨g,hg,hR⟩:=I.eq;obtain⟨y,r,rfl⟩:∃ y r,bs=y::r:=by
  cases bs with
  | nil=>exact aG rfl hb
  | cons y r=>exact⟨y,r,rfl⟩
 simp only[cj]at hg;obtain⟨g',rfl⟩:∃ g',g=g'+2:=⟨g-2,by omega⟩
 rw[iP,pQ,vh,aY rfl]at hR;simp only[iP]at hR;rw[pQ]at hR;have h1:(qE bA cH (fH a x) y.data.toList (r.map (·.data.toList)) h).1=6:=by unfold qE eL;rw[hm];simp
 rw[h1,aW (by decide)]at hR;rw[hR]
end
def ael(bA:aB bP)(cH:Bool)(W:aw)(R:aF × aB aD)(gg:aE)(s8 s10 s11:az)(X:aw):Prop:=
 ∃ (a:aA) (p:aC aJ) (bs:aB aA) (n c h:aE),s8=ah p n c/\s10=ai a/\s11=aa ag h/\(9-h)*100+n+1<=gg/\n=bs.length/\ax (yH bA cH W R a p bs c h X)
section
variable {aS:aE}{W:aw}{B:aE}{s:Sy}{L:ja}
theorem find_ok(hd:cW aS W B s L)(way:aA)(cH:Bool)(l:aB (aB aD))(Sh:l.length<=81)(Se:∀ n∈l,n.length<=12)(rf:ay Tryz.prog 58 #[ai way] W (eW W l 0))(R:aF × aB aD)(hR:R=nK s.bA cH 1100 [] l 0):ay Tryz.prog 30 #[aj (aO B),ai way,aq cH] W (jk (if ¬ R.1=0 then R.1 else if 80<R.2.length then 4 else 0) (if ¬ R.1=0 then[]else if 80<R.2.length then[]else R.2) W):=by
 have HD:ax (cW aS W B s L):=hd;have H0:ax (R=nK s.bA cH 1100 [] l 0/\l.length<=81/\∀ n∈l,n.length<=12):=⟨hR,Sh,Se⟩
 have KR:=hd.lt;obtain⟨_,_,c2,_,_⟩:=hd.cells;obtain⟨sn,ik⟩:∃ n,n=s.bA.length:=⟨_,rfl⟩
 rw[<- ik]at c2;have FM:ax (sn=s.bA.length):=ik;clear hd hR Sh Se ik;obtain⟨re,Ss⟩:∃ re,re=if ¬ R.1=0 then R.1 else if 80<R.2.length then 4 else 0:=⟨_,rfl⟩
 obtain⟨rl,Lg⟩:∃ rl,rl=if ¬ R.1=0 then[]else if 80<R.2.length then[]else R.2:=⟨_,rfl⟩
 have zL:ax ((re=if ¬ R.1=0 then R.1 else if 80<R.2.length then 4 else 0)/\(rl=if ¬ R.1=0 then[]else if 80<R.2.length then[]else R.2)):=⟨Ss,Lg⟩
 rw[<- Ss,<- Lg];clear Ss Lg;go_enter Tryz.func30,Tryz.ntmps30;go_wp2_with (go_at_call 58;refine rf.mono ?_;clear rf;intro e w1 hE;obtain⟨p1,k1,JY,yP,rfl,tF,lV⟩:=jQ hE;clear hE);have GZ:ax (yH s.bA cH W R ⟨#[]⟩ p1 yP JY 0 w1/\k1=yP.length/\yP.length<=81):=by
  obtain⟨h1,h2,h3⟩:=tF.out;obtain⟨p',c',e,J4,Hd,Em,_⟩:=h2.yZ;injection e with e1 e2 e3
  subst e1 e3;have hlen:yP.length=l.length:=by rw[<- h3,bQ]
  have:=H0.2.1;exact⟨⟨J4,Hd,Em,⟨by decide,fun n hn=>H0.2.2 n (by rw[<- h3];exact hn),by rw[bQ];omega,by omega⟩,⟨1100,by omega,by rw[h3];exact H0.1⟩,lV.out⟩,h1,by omega⟩
 clear tF lV;go_loopg [8,10,11] 1200 (fun gg s8 s10 s11 wr=>ael s.bA cH W R gg s8 s10 s11 wr)
 case atStart=>exact⟨⟨#[]⟩,p1,yP,k1,JY,0,rfl,rfl,rfl,by have:=GZ.2;omega,GZ.2.1,GZ.1⟩
 case round=>
  obtain⟨a,p,bs,n,c,h,rfl,rfl,rfl,oP,hn,HI⟩:=hrel;cases bs with
  | nil=>
   have HR:ax (R=(0,a.data.toList)):=by obtain⟨g,_,hR⟩:=HI.eq;show _=_;rw[hR];exact Fc _ _ _ _ _
   obtain rfl:n=0:=hn;have E4:a.size<=100:=by have:=HI.ok.len;rw[ix]at this;exact this
   by_cases oq:80<a.size
   ·have RI:(80:aF)<(a.size:aF):=by omega
    go_wp2;go_ret2;refine⟨⟨#[]⟩,?_,?_,HI.below⟩
    ·rw[zL.1,HR.out,aW (by simp),aY (by rw[ix];exact oq)];rfl
    ·rw[zL.2,HR.out,aW (by simp),aY (by rw[ix];exact oq)]
   ·have RI:¬ (80:aF)<(a.size:aF):=by omega
    go_wp2;go_ret2;refine⟨a,?_,?_,HI.below⟩
    ·rw[zL.1,HR.out,aW (by simp),aW (by rw[ix];exact oq)];rfl
    ·rw[zL.2,HR.out,aW (by simp),aW (by rw[ix];exact oq)]
  | cons x bs=>
   obtain⟨b,off,rfl,hb,q0⟩:∃ b off,p=aO ⟨b,off,aN⟩/\b<wr.heap.size/\∀ j y,(x::bs)[j]?=aO y->wr.cell? ⟨b,off+j,aN⟩=aO (ai y):=HI.anO.resolve_left (by simp);generalize hm:bs.length=m;obtain rfl:n=m+1:=by rw[<- hm];exact hn
   have HM:ax (m=bs.length):=hm.symm;have C6:m+1<=c:=by have:=HI.cap;rw[<- hn]at this;exact this
   have alf:(m:aF)+1<=(c:aF):=by omega
   have hr:du false s.bA:=cY s.all;have hg0:=fun(q:aA) Y (hY:au wr.heap.size wr Y)=>Ed s.bA q L.ps sn L.sc Y FM.out ((HD.bB (Below.bK HI.below hY)).data.now.bA) hr _ _ rfl rfl
   have QN:ax (∀ e:aF,¬ e=0->R.1=e->re=e/\rl=[]):=fun e he hR=>by rw[zL.1,zL.2,hR,aY he,aY he];exact⟨rfl,rfl⟩
   have M0:ax (∀ Y,au wr wr Y->jy Y (aO ⟨b,off+1,aN⟩) bs):=fun Y hY=>.inr ⟨b,off+1,rfl,aZ hb hY.size,fun j y hj=>(hY.cell (p:=⟨b,off+1+j,aN⟩) hb).trans (by rw[dh,nA 1 j];exact q0 (j+1) y (by simpa using hj))⟩
   obtain⟨F4,tJ,si,hh1⟩:a.size<=100/\x.size<=12/\bs.length<=1000/\h<=8:=by have h1:=HI.ok.len;have h2:=HI.ok.each x (by simp);have h3:=HI.ok.num;have h4:=HI.ok.YT;rw[ix]at h1 h2;simp at h3;exact⟨h1,h2,by show bs.length<=1000;have:(h+1)*81<=9*81:=Nat.mul_le_mul_right _ (by omega);omega,h4⟩
   have hh8:(h:aF)<=8:=by omega
   have x7:=hg0 a wr (aR _ _);have Ud:ax (eL s.bA a.data.toList=if(bW s.bA a).isSome=false then 6 else if((bW s.bA a).getD cR).bE=2 then 0 else 10):=by show _=_;unfold eL;cases bW s.bA a.data.toList<;>simp
   generalize (bW s.bA a).getD cR=e1 at x7 Ud;generalize (bW s.bA a).isSome=b1 at x7 Ud;obtain⟨e1p,e1k,e1t,e1o⟩:=e1;have c2r:wr.cell? ⟨B,2,aN⟩=aO (ah L.ps sn L.sc):=(HI.below.cell (p:=⟨B,2,aN⟩) KR).trans c2;have xq:B<wr.heap.size:=aZ KR HI.below.size;have q00:wr.cell? ⟨b,off,aN⟩=aO (ai x):=q0 0 x rfl;have zO:b<wr.heap.size:=hb;clear hn hm q0;go_upto_region 6 with fail
   go_cut [12,13]from 30 to 38 (fun s12 s13 w=>∃ E:aE,s12=aj (aO E)/\s13=aq b1/\w.cell? ⟨E,1,aN⟩=aO (aa ag e1k)/\ax (au wr wr w))
   case first=>
    go_wp2_with (go_at_call 31;refine x7.mono ?_;clear x7;rintro r w1 ⟨rfl,fg⟩;have HY:ax _:=fg;clear fg);go_meet
    case rel=>exact⟨_,rfl,rfl,by simp,HY.alloc HY.size _⟩
   obtain⟨E,rfl,rfl,x1,HY⟩:=hcut;clear x7;generalize wc=w1 at *;replace q00:=(HY.cell (p:=⟨b,off,aN⟩) hb).trans q00;replace c2r:=(HY.cell (p:=⟨B,2,aN⟩) xq).trans c2r;cases b1
   ·obtain⟨z1,z2⟩:=QN.out 6 (by decide) (HI.bad (by decide) (by unfold qE;rw[Ud.out];simp))
    have HZ:ax (re=6/\rl=[]):=⟨z1,z2⟩
    clear z1 z2;go_wp2_with fail;go_ret2;exact⟨⟨#[]⟩,by rw[HZ.1];rfl,by rw[HZ.2],Below.bK HI.below HY.out⟩
   cases hk:(e1k != 2);rotate_left
   ·have j4:¬ e1k=2:=by simpa using hk
    have HZ:ax (re=10/\rl=[]):=QN.out 10 (by decide) (HI.bad (by decide) (by unfold qE;rw[Ud.out];simp[j4]));clear j4;go_wp2_with fail;go_ret2;exact⟨⟨#[]⟩,by rw[HZ.1];rfl,by rw[HZ.2],Below.bK HI.below HY.out⟩
   obtain rfl:e1k=2:=by simpa using hk
   have Uc:ax (eL s.bA a.data.toList=0):=by show _=_;rw[Ud.out];simp
   clear Ud hk;go_upto_region 12 with fail
   go_cut [8]from 47 to 48 (fun s8 w=>∃ (p':aC aJ) (c':aE),s8=ah p' m c'/\w=w1/\ax ((∀ Y,au wr wr Y->jy Y p' bs)/\bs.length<=c'/\(p'=aN->c'=0)))
   case first=>
    by_cases Ef:c=1
    ·subst Ef
     obtain rfl:m=0:=by omega
     go_wp2_with fail;go_meet
     case rel =>have DU:bs=[]:=dr.1 HM.symm;exact⟨_,_,rfl,rfl,fun _ _=>.inl DU,by rw[DU];exact bF _,nofun⟩
    ·go_wp2_with fail
     go_meet
     case rel=>exact⟨_,_,rfl,rfl,M0.out,by have:=HM.out;omega,nofun⟩
   obtain⟨p',c',rfl,qM,HL⟩:=hcut;subst qM;generalize hdd:(x.toList == [46,46])=dd;have HDD:ax (x.data.toList=[46,46]↔dd=true):=by show _↔_;rw[<- hdd,bq];simp
   cases dd;rotate_left
   ·have oF:=fun Y=>ae0 a Y (by omega)
    have HG0:ax (qE s.bA cH a x (bs.map (·.data.toList)) h=(0,bU a.data.toList,bs.map (·.data.toList),h)):=by show _=_;unfold qE;rw[aW (by rw[Uc.out];simp),aY (HDD.2 rfl)]
    go_wp2_with (go_at_call 51;refine(oF _).mono ?_;clear oF;rintro r w2 ⟨⟨d,dn,rfl,hd⟩,fC⟩;have nN:ax (au wr wr w2/\d.data.toList=bU a):=⟨Below.bK HY.out fC,hd⟩;clear fC hd);go_roundg (gk-1)
    case measure=>omega
    case rel=>exact⟨d,p',bs,m,c',h,rfl,rfl,rfl,by omega,HM.out,(HI.next hr HG0.out nN.2 rfl (HL.1 _ nN.1) HL.2.1 HL.2.2 nN.1).1⟩
   go_upto_if 58 with fail
   go_cut [15]from 57 to 62 (fun s15 w=>∃ nx:aA,s15=ai nx/\w=wc/\ax (nx.data.toList=fH a x))
   case first=>
    cases qd:a.toList.isEmpty
    ·have hv1:(9223372036854775807<a.size+1)=False:=tV (by omega)
     have hv2:(9223372036854775807<a.size+1+x.size)=False:=tV (by omega);go_wp2_with fail;go_meet
     case rel =>refine⟨_,rfl,rfl,?_⟩;show _=_;unfold fH;rw[aW (by rw[bq]at qd;simpa using qd)];simp
    ·have HAE:ax (a.data.toList=[]):=by show _=_;rw[bq]at qd;simpa using qd
     go_wp2_with fail;go_meet
     case rel =>refine⟨_,rfl,rfl,?_⟩;show _=_;rw[HAE.out];rfl
   obtain⟨nx,rfl,qM,WB⟩:=hcut;subst qM;have uI:=hg0 nx;have HT:=show ax _ from Iw hr (fH a x)
   have Wy:ax (qE s.bA cH a x (bs.map (·.data.toList)) h=if((bW s.bA (fH a x)).getD cR).bE=3/\(bs.map (·.data.toList)≠[]\/cH=true)then(if 8<h+1 then(12,a.data.toList,bs.map (·.data.toList),h+1)else if ¬ (en ((bW s.bA (fH a x)).getD cR).text.data.toList).2=0 then((en ((bW s.bA (fH a x)).getD cR).text.data.toList).2,a.data.toList,bs.map (·.data.toList),h+1)else(0,if sw ((bW s.bA (fH a x)).getD cR).text.data.toList then[]else a.data.toList,(en ((bW s.bA (fH a x)).getD cR).text.data.toList).1++bs.map (·.data.toList),h+1))else(0,fH a x.data.toList,bs.map (·.data.toList),h)):=by show _=_;unfold qE;rw[aW (by rw[Uc.out];simp),aW (fun e=>by simpa using HDD.1 e)]
   have hbm:bs.map (·.data.toList)≠[]↔¬ m=0:=by rw[HM.out];simp
   have QL:ax ((bW s.bA (fH a x)).isSome=false->((bW s.bA (fH a x)).getD cR).bE=0/\(¬ m=0->R.1=6)):=fun e=>by
    have VD:bW s.bA (fH a x)=aN:=by simpa using e
    refine⟨by rw[VD];rfl,fun e'=>HI.lost (Wy.trans (aW fun h3=>?_)) VD (fun e2=>e' (by rw[HM.out,e2];rfl))⟩;rw[VD]at h3;exact aG h3.1 (by decide)
   rw[WB.out]at uI;generalize (bW s.bA (fH a x)).getD cR=e2 at uI HT Wy QL;generalize (bW s.bA (fH a x)).isSome=b2 at uI QL;obtain⟨e2p,e2k,G5,e2o⟩:=e2;generalize h3:(e2k != 3)=t3;have e3:e2k=3↔t3=false:=by rw[<- h3];simp
   have hq:=Wy.out;simp only[e3,hbm]at hq;replace Wy:ax (_=_):=hq;replace QL:ax (b2=false->t3=true/\(¬ m=0->R.1=6)):=fun e=>⟨by rw[<- h3,show e2k=0 from(QL.out e).1];rfl,(QL.out e).2⟩
   simp only at HT;clear hbm e3 hq;go_upto_region 18 with fail
   go_cut [16,13]from 63 to 71 (fun s16 s13 w=>∃ E:aE,s16=aj (aO E)/\s13=aq b2/\w.cell? ⟨E,1,aN⟩=aO (aa ag e2k)/\w.cell? ⟨E,2,aN⟩=aO (ai G5)/\E<w.heap.size/\ax (au wr wr w))
   case first=>
    go_wp2_with (go_at_call 31;refine(uI _ HY.out).mono ?_;clear uI;rintro r w2 ⟨rfl,fC⟩;replace HY:ax _:=Below.bK HY.out fC;clear fC);go_meet
    case rel=>exact⟨_,rfl,rfl,by simp,by simp,by simp,HY.alloc HY.size _⟩
   clear HY x1 q00 c2r uI;obtain⟨E2,rfl,rfl,x1,x2,x3,HY⟩:=hcut;cases cH;all_goals rcases(by omega:m=0\/(¬ m=0/\0<m))with rfl|⟨hm0,hm1⟩
   all_goals go_upto_region 26 with fail
   all_goals try (go_roundg (gk-1);(case measure=>omega);(case rel=>exact⟨nx,p',bs,_,c',h,rfl,rfl,rfl,by omega,by have:=HM.out;omega,(HI.next hr (Wy.trans (aW (by have:=QL.out;grind))) WB.out rfl (HL.1 _ HY.out) HL.2.1 HL.2.2 HY.out).1⟩))
   all_goals try (go_ret2;have HZ:re=_/\rl=[]:=(by first|exact QN.out 6 (by decide) ((QL.out (by grind)).2 (by omega))|exact QN.out 12 (by decide) (HI.bad (by decide) (by rw[Wy.out,aY (by grind),aY (by omega)])));exact⟨⟨#[]⟩,by rw[HZ.1];rfl,by rw[HZ.2],Below.bK HI.below HY.out⟩)
   all_goals
    have Wx:ax (_=_):=(Wy.trans (aY (by grind))).trans (aW (by omega));have hpa:=fun Y=>Th G5 Y (by have:=HT.out;omega)
    have hpn:G5.data.toList=[]->¬ (en G5).2=0:=fun e=>by rw[e];decide
    have VL:=(tz G5).1;generalize (en G5).2=pe at hpa Wx hpn;generalize (en G5).1=pt at hpa Wx VL;clear Wy QL;go_cut [17,18]from 100 to 105 (fun s17 s18 w=>∃ (p3:aC aJ) (k3 c3:aE) (M7:aB aA),s17=ah p3 k3 c3/\s18=aa ag pe/\w.cell? ⟨E2,2,aN⟩=aO (ai G5)/\ax (k3=M7.length/\jy w p3 M7/\(p3=aN->c3=0)/\M7.map (·.data.toList)=pt/\M7.length<=81/\au wr wr w))
    case first=>
     go_wp2_with (go_at_call 58;refine(hpa _).mono ?_;clear hpa;intro r w3 hE;obtain⟨p3,k3,c3,M7,rfl,U2,mm⟩:=jQ hE;clear hE);go_meet
     case rel=>
      obtain⟨h1,h2,h3⟩:=U2.out;obtain⟨q',d',e,J4,Hd,Em,_⟩:=h2.yZ;injection e with e1 e2 e3
      subst e1 e3;exact⟨_,_,_,M7,rfl,rfl,(mm.cell (p:=⟨E2,2,aN⟩) x3).trans x2,h1,J4,Em,h3,by rw[<- h3,bQ]at VL;exact VL,Below.bK HY.out mm.out⟩
    clear HY x1 x2 x3 hpa;obtain⟨p3,k3,c3,M7,rfl,rfl,x2,H3⟩:=hcut;cases BU:(pe != 0);rotate_left
    ·have td:¬ pe=0:=by simpa using BU
     have HZ:ax (re=pe/\rl=[]):=QN.out _ td (HI.bad td (by rw[Wx.out,aY td]));clear td;go_wp2_with fail;go_ret2;exact⟨⟨#[]⟩,by rw[HZ.1];rfl,by rw[HZ.2],Below.bK HI.below H3.2.2.2.2.2⟩
    obtain rfl:pe=0:=by simpa using BU
    obtain⟨ch,tr,lz⟩:∃ ch tr,G5.data.toList=ch::tr:=by
     cases hh:G5.data.toList with
     | nil=>exact aG rfl (hpn hh)
     | cons ch tr=>exact⟨ch,tr,rfl⟩
    have acf:0<G5.size:=by have:=ix G5;rw[lz]at this;simp at this;omega
    have iL:(0:aF)<(G5.size:aF):=by omega
    have xv:((((G5[0]'acf).toNat:aE):aF) == 47)=sw G5.data.toList:=by
     have h0c:G5[0]'acf=ch:=by
      have h1:G5.data.toList[0]?=aO ch:=by rw[lz];rfl
      rw[gJ]at h1;exact(aX.1 h1).2
     rw[h0c,lz];show _=(aO ch == aO 47)
     by_cases hc:ch=47
     ·subst hc;rfl
     ·have h1:¬ ch.toNat=47:=fun e=>hc (UInt8.toNat.inj e)
      rw[dw.2 (by omega),dw.2 (by simpa using hc)]
    generalize sw G5.data.toList=sl at xv Wx;replace Wx:ax (_=_):=Wx.trans (aW (by simp));have HW:ax (wc.heap.size<=wc):=aV _;clear lz BU hpn VL;have afs:True:=trivial;go_wp2_with (first
     | (at_builtin;clear afs;refine r9 _ rfl _ _ rfl wc (ah (aO wc) 0 0) [] rfl (World.ownsRow_made wc #[] 0 (aV _) (bF _) rfl) (by simp) p3 k3 c3 M7 rfl H3.1 (H3.2.1.bB ((Grown.refl wc).alloc _).below) H3.2.2.1 (by have:=H3.2.2.2.2.1;simp;omega) ?_;intro v4 w4 hS4 eO;have H4:ax (jE w4 wc v4 M7/\au wr wr w4/\wc.heap.size<=w4):=⟨by simpa using hS4,(Below.bK H3.2.2.2.2.2 ((Grown.refl wc).alloc _).below).trans (eO.mono H3.2.2.2.2.2.size),by have:=eO.size;simp at this;omega⟩;clear hS4 eO)
     | (at_builtin;refine r9 _ rfl _ _ rfl wc v4 M7 rfl H4.1 H4.2.2 p' _ c' bs rfl (by have:=HM.out;omega) (HL.1 _ H4.2.1) HL.2.2 (by have:=H3.2.2.2.2.1;omega) ?_;intro v5 w5 hS5 fA;have H5:ax (au wr wr w5):=H4.2.1.trans (fA.mono H3.2.2.2.2.2.size);obtain⟨p5,c5,rfl,Ul,Ur,Xf,_⟩:=hS5.yZ;have Zx:ax (jy w5 p5 (M7++bs)/\(M7++bs).length<=c5/\(p5=aN->c5=0)):=⟨Ul,Ur,Xf⟩;clear Ul Ur Xf hS5 fA;obtain⟨n5,Xf⟩:=ee ((M7++bs).length);have XI:ax (n5=(M7++bs).length):=Xf;rw[<- Xf];clear Xf))
    all_goals
     go_roundg (gk-1)
     case measure=>omega
     case rel=>
      first
       | (have hq:=HI.next hr (a':=a) Wx.out (by simp[*]) (by rw[fk,H3.2.2.2.1]) Zx.1 Zx.2.1 Zx.2.2 H5.out
          exact⟨a,_,_,_,_,h+1,rfl,rfl,by go_num,by have:=hq.2;have:=XI.out;have:=HM.out;omega,XI.out,hq.1⟩)
       | (have hq:=HI.next hr (a':=⟨#[]⟩) Wx.out (by simp[*]) (by rw[fk,H3.2.2.2.1]) Zx.1 Zx.2.1 Zx.2.2 H5.out
          exact⟨⟨#[]⟩,_,_,_,_,h+1,rfl,rfl,by go_num,by have:=hq.2;have:=XI.out;have:=HM.out;omega,XI.out,hq.1⟩)
end
section
variable {aS:aE}{W:aw}{B:aE}{s:Sy}{L:ja}
theorem Ru(way:aA)(cH:Bool)(e:aF)(he:¬ e=0)(l:aB (aB aD))(rf:ay Tryz.prog 58 #[ai way] W (eW W l e)):ay Tryz.prog 30 #[aj (aO B),ai way,aq cH] W (jk e [] W):=by
 have O0:(e != 0)=true:=by simpa using he
 go_enter Tryz.func30,Tryz.ntmps30;go_wp2_with (first|(go_at_call 58;refine rf.mono ?_;clear rf;intro e w1 hE;obtain⟨p1,k1,JY,yP,rfl,tF,lV⟩:=jQ hE;clear hE)|fail);go_ret2;exact⟨⟨#[]⟩,rfl,rfl,lV.out⟩
theorem lU(hd:cW aS W B s L)(way:aA)(hw:way.size<=1048576)(cH:Bool):ay Tryz.prog 30 #[aj (aO B),ai way,aq cH] W (jk (dV s.bA cH way).1 (dV s.bA cH way).2 W):=by
 have rf:=Th way W hw;by_cases h0:(en way).2=0
 ·rw[h0]at rf
  obtain⟨p1,p2⟩:=tz way.data.toList;have:=find_ok hd way cH _ p1 p2 rf _ rfl;unfold dV;rw[aW (oz h0)];generalize nK s.bA cH 1100 [] (en way).1 0=R at this;by_cases h1:R.1=0
  ·rw[aW (oz h1)]at this ⊢
   rw[aW (oz h1)]at this;by_cases h2:80<R.2.length
   ·rw[aY h2]at this ⊢
    rw[aY h2]at this;exact this
   ·rw[aW h2]at this ⊢
    rw[aW h2]at this;exact this
  ·rw[aY h1]at this ⊢
   rw[aY h1]at this;exact this
 ·have:=Ru (B:=B) way cH _ h0 _ rf
  unfold dV;rw[aY h0];exact this
end
