/-
  What calls leave in order.
-/
import Derived.Test.YthfeoiffoeagkaaGreatDoorZA34
namespace Go.Proofs.YthfeoiffoeagkaaGreatDoor
open Go.RowKit PM Go.Sort
set_option linter.unusedVariables false
namespace PM
def mH (seen:List Ent) (p:ByteArray):Prop:=p.data.toList=[]∨∃ e,getL seen p.data.toList=some e∧e.kind=1
def FlOK (seen:List Ent) (f:Fl):Prop:=f.text.size≤100∧f.locks.length≤40∧mH seen f.path
structure Sy.Good (s:Sy):Prop where
 un:(ay s.all).1=0
 num:∀ n j,s.fds n=some j→n<32
 v1:∀ n j,s.fds n=some j→j<s.opens.length
 v2:∀ (j:Nat) (op:Opn),s.opens[j]?=some op→op.file<s.files.length
 pos:∀ n j op f,s.fB n j op f→0≤op.pos∧op.pos≤1000
 fil:∀ n j op f,s.fB n j op f→FlOK s.seen f
theorem jX (s:Sy):∀ (k i:Nat),i∈s.aZ k→∃ n j,n<k∧s.fds n=some j∧s.fileOf j=i
 | 0,i,h=>by simp [Sy.aZ] at h
 | k+1,i,h=>by
  rw [Sy.aZ] at h
  split at h
  ·obtain ⟨n,j,h1,h2⟩:=jX s k i h
   exact ⟨n,j,by omega,h2⟩
  ·rename_i j hj
   unfold addF at h
   split at h
   ·obtain ⟨n,j,h1,h2⟩:=jX s k i h
    exact ⟨n,j,by omega,h2⟩
   ·rcases List.mem_append.1 h with h | h
    ·obtain ⟨n,j,h1,h2⟩:=jX s k i h
     exact ⟨n,j,by omega,h2⟩
    ·simp at h
     exact ⟨k,j,by omega,hj,h.symm⟩
theorem tY (s:Sy):∀ (k:Nat) {n j:Nat},n<k→s.fds n=some j→s.fileOf j∈s.aZ k
 | 0,n,j,h,_=>by omega
 | k+1,n,j,h,hj=>by
  rw [Sy.aZ]
  by_cases e:n=k
  ·subst e
   rw [hj]
   simp only
   unfold addF
   split
   ·rename_i hm;exact hm
   ·simp
  ·have ih:=tY s k (n:=n) (j:=j) (by omega) hj
   split
   ·exact ih
   ·unfold addF
    split
    ·exact ih
    ·exact List.mem_append.2 (.inl ih)
theorem Sy.Good.leads {s:Sy} (h:s.Good) {i:Nat} (hi:i∈s.reach) {f:Fl} (hf:s.files[i]?=some f):∃ n j op,s.fB n j op f∧op.file=i:=by
 obtain ⟨n,j,_,hj,e⟩:=jX s 32 i hi
 have hl:=h.v1 n j hj
 have ho:s.opens[j]?=some s.opens[j]:=List.getElem?_eq_getElem hl
 have e:s.opens[j].file=i:=by rw [Sy.fileOf,ho] at e;simpa using e
 exact ⟨n,j,_,⟨hj,ho,by rw [e];exact hf⟩,e⟩
theorem Sy.fB.reach {s:Sy} (h:s.Good) {n j:Nat} {op:Opn} {f:Fl} (hl:s.fB n j op f):op.file∈s.reach:=by
 have:=tY s 32 (h.num n j hl.hfd) hl.hfd
 rw [Sy.fileOf,hl.hop] at this
 show op.file∈s.aZ 32
 simpa using this
end PM
theorem Ab {p:ByteArray} {l:List UInt8} (h:clean l=true) (e:p.data.toList=l):p.size≤80:=by rw [← e] at h;exact bL h
theorem Dy {e:Ent} {b:Bool} (h:aG e b=0):e.text.size≤100:=by
 unfold aG at h
 split at h
 ·omega
 ·split at h
  ·omega
  ·split at h
   ·omega
   ·omega
theorem tX {seen:List Ent} (hr:Right false seen) {p:ByteArray} (h:mH seen p):p.size≤80:=by
 by_cases e:p.data.toList=[]
 ·rw [dz (a:=p) (b:=⟨#[]⟩) e];decide
 ·rcases h with h | ⟨x,hx,_⟩
  ·exact absurd h e
  ·obtain ⟨h1,h2⟩:=aM e hx
   exact Ab (hr.clean h1) h2.symm
theorem textOf_size {s:Sy} {f:Fl} (h:FlOK s.seen f):(s.textOf f).size≤100:=by
 unfold Sy.textOf
 split
 ·exact h.1
 ·rename_i e
  rcases h.2.2 with h | ⟨x,hx,_⟩
  ·exact absurd h e
  ·rw [hx]
   exact Dy ((aK s.all).each x (aM e hx).1)
theorem PM.Sy.Good.fine {s:Sy} (h:s.Good):s.Fine:=by
 have hr:Right false s.seen:=aK s.all
 refine ⟨h.un,fun n j op f hl=>?_,fun i hi f hf=>?_⟩
 ·have h1:=h.pos n j op f hl
  have h2:=h.fil n j op f hl
  exact ⟨h1.1,h1.2,tX hr h2.2.2,textOf_size h2,by have:=h2.2.1;omega⟩
 ·obtain ⟨n,j,op,hl,_⟩:=h.leads hi hf
  exact tX hr (h.fil n j op f hl).2.2
section
variable {s:Sy}
theorem PM.Sy.Good.union (h:s.Good) {up:List Ent} {lows:List (List Ent)} (h0:(ay (up::lows)).1=0) (hp:∀ p,mH s.seen p→mH (aB (up::lows)) p):(s.aJ up lows).Good :=
 ⟨h0,h.num,h.v1,h.v2,fun n j op f hl=>h.pos n j op f ⟨hl.hfd,hl.hop,hl.hfl⟩,fun n j op f hl=>by
  have:=h.fil n j op f ⟨hl.hfd,hl.hop,hl.hfl⟩
  exact ⟨this.1,this.2.1,hp _ this.2.2⟩⟩
theorem GJ {seen:List Ent} (hr:Right false seen) {e:Ent} (he:e.p≠[]) (hk:e.kind=1∨getL seen e.p=none) {p:ByteArray} (h:mH seen p):mH (putL seen e) p:=by
 rcases h with h | ⟨x,hx,hx1⟩
 ·exact .inl h
 ·by_cases e1:p.data.toList=e.p
  ·rcases hk with hk | hk
   ·right;rw [e1];exact ⟨e,qJ hr.sorted he,hk⟩
   ·rw [e1,hk] at hx;cases hx
  ·right;rw [wE hr.sorted e1];exact ⟨x,hx,hx1⟩
theorem PM.Sy.Good.put (h:s.Good) {e:Ent} (hc:aF (ay s.all).1 (aQ s.seen e) (aC s.up e).length=0) (hk:e.kind=1∨getL s.seen e.p=none):(s.aJ (aC s.up e) s.lows).Good∧aB (aC s.up e::s.lows)=putL s.seen e:=by
 obtain ⟨h0,h1⟩:=oz (show aF (ay (s.up::s.lows)).1 _ _=0 from hc)
 have hp:=(jA.1 hc).2.1
 have hne:e.p≠[]:=bX (bq (sS hp).2.1)
 refine ⟨h.union h0 (fun p hp=>?_),h1⟩
 rw [h1]
 exact GJ (aK s.all) hne hk hp
theorem PM.Sy.Good.add (h:s.Good) {way:ByteArray} {kind:Int} {text:ByteArray} (he:s.jq way kind text=0):(s.aJ (aC s.up (s.gM way kind text)) s.lows).Good:=by
 unfold Sy.jq at he
 split at he
 ·rename_i h1;exact absurd he h1
 ·split at he
  ·cases he
  ·rename_i h2
   refine (h.put he (.inr ?_)).1
   have e:(s.gM way kind text).p=(aP s.seen false way.data.toList).2:=by simp [Sy.gM,Ent.p,baL]
   rw [e]
   simpa using h2
theorem PM.Sy.Good.files (h:s.Good) {g:Fl→Fl} {up:List Ent} {lows:List (List Ent)} (h0:(ay (up::lows)).1=0) (hg:∀ f,FlOK s.seen f→(s.textOf f).size≤100→FlOK (aB (up::lows)) (g f)):((s.dF g s.reach).aJ up lows).Good:=by
 have hb:∀ n j op f,((s.dF g s.reach).aJ up lows).fB n j op f→∃ f0,s.fB n j op f0∧f=g f0:=fun n j op f hl=>by
  have hf:(s.files.mapIdx fun i f=>if i∈s.reach then g f else f)[op.file]?=some f:=hl.hfl
  rw [List.getElem?_mapIdx] at hf
  cases hf0:s.files[op.file]? with
  | none=>rw [hf0] at hf;cases hf
  | some f0 =>
   rw [hf0] at hf
   have hl0:s.fB n j op f0:=⟨hl.hfd,hl.hop,hf0⟩
   simp only [Option.map_some,if_pos (hl0.reach h),Option.some.injEq] at hf
   exact ⟨f0,hl0,hf.symm⟩
 refine ⟨h0,h.num,h.v1,fun j op ho=>?_,fun n j op f hl=>?_,fun n j op f hl=>?_⟩
 ·have:=h.v2 j op ho
  simpa [Sy.dF,Sy.aJ] using this
 ·obtain ⟨f0,hl0,_⟩:=hb n j op f hl
  exact h.pos n j op f0 hl0
 ·obtain ⟨f0,hl0,e⟩:=hb n j op f hl
  have h2:=h.fil n j op f0 hl0
  rw [e]
  exact hg f0 h2 (textOf_size h2)
theorem PM.Sy.Good.remove (h:s.Good) {kind:Int} {way:ByteArray} (he:s.jm kind way=0):(s.rmDo way).Good:=by
 unfold Sy.jm at he
 split at he
 ·rename_i h1;exact absurd he h1
 split at he
 ·cases he
 split at he
 ·cases he
 split at he
 ·cases he
 split at he
 ·cases he
 rename_i hq
 have hbd:(baL (s.rmQ way)).data.toList=s.rmQ way:=by simp [baL]
 have he2:aF (ay (s.up::s.lows)).1 (bB (aB (s.up::s.lows)) (baL (s.rmQ way)).data.toList) (aL s.up (au s.lows).2 (baL (s.rmQ way))).length=0:=by rw [hbd];exact he
 obtain ⟨h0,h1⟩:=mR he2
 have hr:Right false s.seen:=aK s.all
 unfold Sy.rmDo Sy.release
 refine h.files h0 (fun f hf ht=>?_)
 rw [h1,Sy.relF]
 split
 ·exact ⟨ht,hf.2.1,.inl rfl⟩
 ·rename_i hn
  refine ⟨hf.1,hf.2.1,?_⟩
  rcases hf.2.2 with e | ⟨x,hx,hx1⟩
  ·exact .inl e
  ·right
   rw [show aB (s.up::s.lows)=s.seen from rfl,wF hr.sorted hn]
   exact ⟨x,hx,hx1⟩
end
theorem F4 (a p:ByteArray) (k:Nat):(a++p.extract k p.size).data.toList=a.data.toList++p.data.toList.drop k:=by
 rw [show (a++p.extract k p.size).data.toList=a.data.toList++(p.extract k p.size).data.toList from by simp,Lib.extract_to_end]
theorem BS {a b p:ByteArray} (e:a.data.toList=b.data.toList) (ha:a.data.toList≠[]) (h:p.data.toList=a.data.toList∨under p.data.toList a.data.toList=true):b++p.extract a.size p.size=p:=by
 apply dz
 have hs:a.size=a.data.toList.length:=szl a
 rw [F4,← e,hs]
 rcases h with h | h
 ·rw [h];simp
 ·obtain ⟨r,hr⟩:=(aS _ _ ha).1 h
  rw [hr];simp
theorem FT {a:List UInt8} (h:a≠[]):under [] a=false:=by
 cases hu:under [] a with
 | false=>rfl
 | true=>obtain ⟨r,hr⟩:=(aS _ _ h).1 hu;simp at hr
section
variable {s:Sy}
theorem PM.Sy.Good.rename (h:s.Good) {a b:ByteArray} (he:s.jP a b=0):(s.lC a b).Good:=by
 unfold Sy.jP at he
 split at he
 ·rename_i h1;exact absurd he h1
 split at he
 ·rename_i h1;exact absurd he h1
 split at he
 ·cases he
 rename_i hq
 have ha:s.rmQ a≠[]:=fun e=>hq (.inl e)
 have hb:s.rmQ b≠[]:=fun e=>hq (.inr e)
 obtain ⟨h0,h1,h2⟩:=xC he
 have hm:=(jA.1 he).2.1
 have da:(baL (s.rmQ a)).data.toList=s.rmQ a:=by simp [baL]
 have db:(baL (s.rmQ b)).data.toList=s.rmQ b:=by simp [baL]
 have hr:Right false s.seen:=aK s.all
 unfold Sy.lC Sy.renamed
 by_cases e:(baL (s.rmQ a)).data.toList=(baL (s.rmQ b)).data.toList
 ·rw [if_pos e]
  unfold Sy.carry
  refine h.files h0 (fun f hf ht=>?_)
  rw [h1 e]
  have:carF (baL (s.rmQ a)) (baL (s.rmQ b)) f=f:=by
   unfold carF
   split
   ·rename_i hc
    rw [BS e (by rw [da];exact ha) hc]
   ·rfl
  rw [this]
  exact hf
 ·rw [if_neg e]
  obtain ⟨hp,hw⟩:=h2 e
  have hok:=sO hm e
  have hR:=hok.zx hp hw
  have hcomb:((s.release (baL (s.rmQ b))).carry (baL (s.rmQ a)) (baL (s.rmQ b)))=s.dF (fun f=>carF (baL (s.rmQ a)) (baL (s.rmQ b)) (s.relF (baL (s.rmQ b)) f)) s.reach:=by
   have hrr:(s.release (baL (s.rmQ b))).reach=s.reach:=qB rfl rfl 32
   unfold Sy.carry
   rw [hrr]
   unfold Sy.release Sy.dF
   simp only [List.mapIdx_mapIdx]
   congr 1
   apply List.ext_getElem?
   intro k
   rw [List.getElem?_mapIdx,List.getElem?_mapIdx]
   cases s.files[k]? with
   | none=>rfl
   | some x =>
    simp only [Option.map_some,Function.comp]
    by_cases hk:k∈s.reach
    ·simp [hk]
    ·simp [hk]
  rw [hcomb]
  refine h.files h0 (fun f hf ht=>?_)
  have hnil:∀ g:Fl,g.path.data.toList=[]→carF (baL (s.rmQ a)) (baL (s.rmQ b)) g=g:=fun g hg=>by
   unfold carF
   rw [if_neg]
   rintro (h | h)
   ·rw [hg,da] at h;exact ha h.symm
   ·rw [hg,da,FT ha] at h;cases h
  unfold Sy.relF
  split
  ·rw [hnil _ rfl]
   exact ⟨ht,hf.2.1,.inl rfl⟩
  ·rename_i hn
   rcases hf.2.2 with e0 | ⟨x,hx,hx1⟩
   ·rw [hnil _ e0];exact ⟨hf.1,hf.2.1,.inl e0⟩
   ·by_cases e0:f.path.data.toList=[]
    ·rw [hnil _ e0];exact ⟨hf.1,hf.2.1,.inl e0⟩
    ·obtain ⟨hx2,hx3⟩:=aM e0 hx
     have hxp:x.path=f.path:=dz hx3
     unfold carF
     split
     ·rename_i hc
      refine ⟨hf.1,hf.2.1,.inr ⟨mvE (baL (s.rmQ a)) (baL (s.rmQ b)) x,?_,hx1⟩⟩
      have hi:inM (baL (s.rmQ a)).data.toList x=true:=by
       unfold inM
       rcases hc with hc | hc
       ·simp [hx3,hc]
       ·simp [hx3,hc]
      have hg:=hok.goes hp hx2 hi
      have hpp:(mvE (baL (s.rmQ a)) (baL (s.rmQ b)) x).p=(baL (s.rmQ b)++f.path.extract (baL (s.rmQ a)).size f.path.size).data.toList:=by
       rw [← hxp];rfl
      rw [← hpp]
      exact dU hR.sorted hg (hR.ne hg)
     ·rename_i hc
      refine ⟨hf.1,hf.2.1,.inr ⟨x,?_,hx1⟩⟩
      have hi:inM (baL (s.rmQ a)).data.toList x=false:=by
       unfold inM
       rw [hx3]
       cases hd:(decide (f.path.data.toList=(baL (s.rmQ a)).data.toList) || under f.path.data.toList (baL (s.rmQ a)).data.toList) with
       | false=>rfl
       | true =>
        rcases Bool.or_eq_true_iff.1 hd with hd | hd
        ·exact absurd (.inl (by simpa using hd)) hc
        ·exact absurd (.inr hd) hc
      have hg:=hok.stays hp hx2 (by rw [hx3];exact hn) hi
      rw [← hx3]
      exact dU hR.sorted hg (hR.ne hg)
end
theorem Cn {seen:List Ent} (hr:Right false seen) {a n:List UInt8} {r:List (List UInt8)} {h:Nat} (ha:((getL seen a).getD zeroE).kind≠3):((getL seen (goL seen true a n r h).2.1).getD zeroE).kind≠3:=by
 unfold goL
 split
 ·exact ha
 ·rename_i hd
  split
  ·show ((getL seen (aA a)).getD zeroE).kind≠3
   have hd:aW seen a=0:=by simpa using hd
   rcases dJ.1 hd with e | ⟨d,hd1,hd2,_,_⟩
   ·rw [e,show aA []=[] from by decide,bU];decide
   ·rcases hr.dir d hd1 with e | ⟨d',h1,h2,h3⟩
    ·rw [← hd2,e,bU];decide
    ·rw [← hd2,← h2,dU hr.sorted h1 (hr.ne h1)]
     show d'.kind≠3
     rw [h3];decide
  ·split
   ·split
    ·exact ha
    ·split
     ·exact ha
     ·show ((getL seen (if _ then [] else a)).getD zeroE).kind≠3
      split
      ·rw [bU];decide
      ·exact ha
   ·rename_i hk
    intro e
    exact hk ⟨e,.inr rfl⟩
theorem rF {seen:List Ent} (hr:Right false seen):∀ (g:Nat) (a:List UInt8) (l:List (List UInt8)) (h:Nat),((getL seen a).getD zeroE).kind≠3→((getL seen (eD seen true g a l h).2).getD zeroE).kind≠3
 | 0,a,l,h,ha=>by rw [eD];exact ha
 | g+1,a,[],h,ha=>by rw [eD];exact ha
 | g+1,a,n::r,h,ha=>by
  rw [eD]
  split
  ·exact rF hr g _ _ _ (Cn hr ha)
  ·rw [bU];decide
theorem Af {seen:List Ent} (hr:Right false seen) (way:List UInt8):((getL seen (aP seen true way).2).getD zeroE).kind≠3:=by
 unfold aP
 split
 ·rw [bU];decide
 split
 ·rw [bU];decide
 split
 ·rw [bU];decide
 ·exact rF hr _ _ _ _ (by rw [bU];decide)
theorem CB {seen:List Ent} (hr:Right false seen) {e:Ent} (he:e∈seen):e.kind=1∨e.kind=2∨e.kind=3:=by
 have h:=hr.each e he
 unfold aG at h
 split at h
 ·omega
 ·rename_i h1
  simp at h1
  by_cases a:e.kind=1
  ·exact .inl a
  by_cases b:e.kind=2
  ·exact .inr (.inl b)
  by_cases c:e.kind=3
  ·exact .inr (.inr c)
  exact absurd (h1 a c) b
section
variable {s:Sy}
theorem PM.Sy.Good.ready (h:s.Good) {cn:Int} {cp:ByteArray} (he:s.gB (s.opL cn cp).2 cn=0):(s.aJ (s.gX (s.opL cn cp).2 cn) s.lows).Good∧mH (s.aJ (s.gX (s.opL cn cp).2 cn) s.lows).seen (baL (s.opL cn cp).2):=by
 have hr:Right false s.seen:=aK s.all
 have hl:(bits BinOp.and IntKind.i64 cn 16 == 0)=true→((getL s.seen (s.opL cn cp).2).getD zeroE).kind≠3:=fun h16=>by
  unfold Sy.opL;rw [h16];exact Af hr _
 generalize (s.opL cn cp).2=q at he hl ⊢
 have hbd:(baL q).data.toList=q:=by simp [baL]
 unfold Sy.gB at he
 split at he
 ·cases he
 split at he
 ·cases he
 rename_i h1 h2
 split at he
 ·cases he
 rename_i h3
 unfold Sy.gX
 split at he
 ·rename_i has
  rw [if_pos has]
  refine ⟨h,?_⟩
  have h16:(bits BinOp.and IntKind.i64 cn 16 == 0)=true:=by
   cases hb:(bits BinOp.and IntKind.i64 cn 16 == 0) with
   | true=>rfl
   | false=>exact absurd ⟨has.1,by simpa [bne] using hb⟩ h2
  cases hg:getL s.seen q with
  | none=>have:=has.1;rw [hg] at this;cases this
  | some e =>
   have hl:=hl h16
   rw [hg] at hl h3
   have hl:e.kind≠3:=hl
   have h3:¬ e.kind=2:=fun e2=>h3 ⟨rfl,e2⟩
   by_cases hq:q=[]
   ·rw [hq,bU] at hg;cases hg;exact absurd rfl h3
   ·right
    rw [hbd]
    refine ⟨e,hg,?_⟩
    rcases CB hr (aM hq hg).1 with k | k | k
    ·exact k
    ·exact absurd k h3
    ·exact absurd k hl
 ·rename_i has
  rw [if_neg has]
  obtain ⟨g1,g2⟩:=h.put he (.inl rfl)
  refine ⟨g1,.inr ⟨⟨baL q,1,⟨#[]⟩,false⟩,?_,rfl⟩⟩
  have hne:(⟨baL q,1,⟨#[]⟩,false⟩:Ent).p≠[]:=bX (bq (sS (jA.1 he).2.1).2.1)
  show getL (aB (aC s.up ⟨baL q,1,⟨#[]⟩,false⟩::s.lows)) (baL q).data.toList=_
  rw [g2]
  exact qJ hr.sorted hne
theorem PM.Sy.Good.opened (h:s.Good) {q:ByteArray} {use:Int} {n:Nat} (hn:n<32) (hq:mH s.seen q):(s.opened q use n).Good:=by
 have key:∀ (s1:Sy) (i:Nat),s1.Good→(∃ f,s1.files[i]?=some f∧FlOK s1.seen f)→((s1.gT ⟨i,use,0⟩).dS n (some s1.opens.length)).Good:=fun s1 i g ⟨f0,hf0,hk0⟩=>by
  have hi:=(List.getElem?_eq_some_iff.1 hf0).1
  have hb:∀ m j op f,((s1.gT ⟨i,use,0⟩).dS n (some s1.opens.length)).fB m j op f→(op=⟨i,use,0⟩∧f=f0)∨s1.fB m j op f:=fun m j op f hl=>by
   have h1:(if m=n then some s1.opens.length else s1.fds m)=some j:=hl.hfd
   have h2:(s1.opens++[⟨i,use,0⟩])[j]?=some op:=hl.hop
   have h3:s1.files[op.file]?=some f:=hl.hfl
   by_cases e:m=n
   ·rw [if_pos e] at h1
    cases h1
    rcases iK h2 with ⟨_,e2⟩ | ⟨hl,_⟩
    ·left
     subst e2
     exact ⟨rfl,by rw [hf0] at h3;cases h3;rfl⟩
    ·omega
   ·rw [if_neg e] at h1
    have hj:=g.v1 m j h1
    rcases iK h2 with ⟨e2,_⟩ | ⟨_,h2⟩
    ·omega
    ·exact .inr ⟨h1,h2,h3⟩
  refine ⟨g.un,fun m j hm=>?_,fun m j hm=>?_,fun j op ho=>?_,fun m j op f hl=>?_,fun m j op f hl=>?_⟩
  ·have h1:(if m=n then some s1.opens.length else s1.fds m)=some j:=hm
   by_cases e:m=n
   ·omega
   ·rw [if_neg e] at h1;exact g.num m j h1
  ·have h1:(if m=n then some s1.opens.length else s1.fds m)=some j:=hm
   show j<(s1.opens++[_]).length
   simp
   by_cases e:m=n
   ·rw [if_pos e] at h1;cases h1;omega
   ·rw [if_neg e] at h1;have:=g.v1 m j h1;omega
  ·rcases iK (show (s1.opens++[⟨i,use,0⟩])[j]?=some op from ho) with ⟨_,e⟩ | ⟨_,ho⟩
   ·rw [e];exact hi
   ·exact g.v2 j op ho
  ·rcases hb m j op f hl with ⟨e,_⟩ | hl
   ·rw [e];exact ⟨Int.le_refl _,by show (0:Int)≤1000;decide⟩
   ·exact g.pos m j op f hl
  ·rcases hb m j op f hl with ⟨_,e⟩ | hl
   ·rw [e];exact hk0
   ·exact g.fil m j op f hl
 unfold Sy.opened Sy.fileAt
 cases ho:s.pG q with
 | some i =>
  have hi:i∈s.reach:=List.mem_of_find?_eq_some ho
  have hlt:i<s.files.length:=by
   obtain ⟨m,j,_,hj,e⟩:=jX s 32 i hi
   have hl:=h.v1 m j hj
   have h2:=h.v2 j _ (List.getElem?_eq_getElem hl)
   rw [Sy.fileOf,List.getElem?_eq_getElem hl] at e
   simp at e
   omega
  obtain ⟨m,j,op,hl,_⟩:=h.leads hi (List.getElem?_eq_getElem hlt)
  exact key s i h ⟨_,List.getElem?_eq_getElem hlt,h.fil m j op _ hl⟩
 | none =>
  have g:(s.iP ⟨q,⟨#[]⟩,[]⟩).Good:=by
   have hb:∀ m j op f,(s.iP ⟨q,⟨#[]⟩,[]⟩).fB m j op f→s.fB m j op f:=fun m j op f hl=>by
    refine ⟨hl.hfd,hl.hop,?_⟩
    have h2:=h.v2 j op hl.hop
    rcases iK (show (s.files++[_])[op.file]?=some f from hl.hfl) with ⟨e,_⟩ | ⟨_,h3⟩
    ·omega
    ·exact h3
   exact ⟨h.un,h.num,h.v1,fun j op ho=>by have:=h.v2 j op ho;show op.file<(s.files++[_]).length;simp;omega,fun m j op f hl=>h.pos m j op f (hb m j op f hl),fun m j op f hl=>h.fil m j op f (hb m j op f hl)⟩
  refine key (s.iP ⟨q,⟨#[]⟩,[]⟩) s.files.length g ⟨⟨q,⟨#[]⟩,[]⟩,?_,⟨by show (ByteArray.mk #[]).size≤100;decide,Nat.zero_le _,hq⟩⟩
  show (s.files++[_])[s.files.length]?=_
  simp
theorem PM.Sy.Good.open (h:s.Good) {o:Nat} {cn:Int} {cp:ByteArray} (ho:o<4) (he:s.gV o cn cp=0):(s.jw o cn cp).Good:=by
 unfold Sy.gV at he
 split at he
 ·cases he
 split at he
 ·cases he
 rename_i hfr
 split at he
 ·rename_i h1;exact absurd he h1
 obtain ⟨g1,g2⟩:=h.ready he
 unfold Sy.jw
 refine g1.opened ?_ g2
 rcases lU s o with e | ⟨k,hk,e,_⟩
 ·omega
 ·rw [e];show o*8+k<32;omega
theorem PM.Sy.Good.number (h:s.Good) {n:Nat} {j:Option Nat} (hn:n<32) (hj:∀ x,j=some x→∃ m,s.fds m=some x):(s.dS n j).Good:=by
 have hb:∀ m x,(s.dS n j).fds m=some x→∃ m',s.fds m'=some x:=fun m x hm=>by
  have h1:(if m=n then j else s.fds m)=some x:=hm
  by_cases e:m=n
  ·rw [if_pos e] at h1;exact hj x h1
  ·rw [if_neg e] at h1;exact ⟨m,h1⟩
 refine ⟨h.un,fun m x hm=>?_,fun m x hm=>?_,h.v2,fun m x op f hl=>?_,fun m x op f hl=>?_⟩
 ·have h1:(if m=n then j else s.fds m)=some x:=hm
  by_cases e:m=n
  ·omega
  ·rw [if_neg e] at h1;exact h.num m x h1
 ·obtain ⟨m',h'⟩:=hb m x hm
  exact h.v1 m' x h'
 ·obtain ⟨m',h'⟩:=hb m x hl.hfd
  exact h.pos m' x op f ⟨h',hl.hop,hl.hfl⟩
 ·obtain ⟨m',h'⟩:=hb m x hl.hfd
  exact h.fil m' x op f ⟨h',hl.hop,hl.hfl⟩
theorem PM.Sy.Good.file (h:s.Good) {i:Nat} {f':Fl} (hf:FlOK s.seen f'):(s.setF i f').Good:=by
 have hb:∀ m j op f,(s.setF i f').fB m j op f→(∃ f0,s.fB m j op f0)∧(f=f'∨s.fB m j op f):=fun m j op f hl=>by
  have h3:(s.files.set i f')[op.file]?=some f:=hl.hfl
  have hlt:op.file<s.files.length:=by simpa using (List.getElem?_eq_some_iff.1 h3).1
  refine ⟨⟨_,hl.hfd,hl.hop,List.getElem?_eq_getElem hlt⟩,?_⟩
  rcases lX h3 with ⟨_,e,_⟩ | ⟨_,h3⟩
  ·exact .inl e
  ·exact .inr ⟨hl.hfd,hl.hop,h3⟩
 refine ⟨h.un,h.num,h.v1,fun j op ho=>by simpa [Sy.setF] using h.v2 j op ho,fun m j op f hl=>?_,fun m j op f hl=>?_⟩
 ·obtain ⟨⟨f0,h0⟩,_⟩:=hb m j op f hl
  exact h.pos m j op f0 h0
 ·rcases (hb m j op f hl).2 with e | hl
  ·rw [e];exact hf
  ·exact h.fil m j op f hl
theorem PM.Sy.Good.place (h:s.Good) {j:Nat} {op:Opn} {p:Int} (ho:s.opens[j]?=some op) (hp:0≤p∧p≤1000):(s.setO j { op with pos:=p }).Good:=by
 have hb:∀ m j2 op2 f,(s.setO j { op with pos:=p }).fB m j2 op2 f→(op2.pos=p∧s.fB m j2 op f)∨s.fB m j2 op2 f:=fun m j2 op2 f hl=>by
  have h2:(s.opens.set j { op with pos:=p })[j2]?=some op2:=hl.hop
  rcases lX h2 with ⟨e1,e2,_⟩ | ⟨_,h2⟩
  ·left
   subst e1 e2
   exact ⟨rfl,hl.hfd,ho,hl.hfl⟩
  ·exact .inr ⟨hl.hfd,h2,hl.hfl⟩
 refine ⟨h.un,h.num,fun m x hm=>by simpa [Sy.setO] using h.v1 m x hm,fun j2 op2 ho2=>?_,fun m j2 op2 f hl=>?_,fun m j2 op2 f hl=>?_⟩
 ·rcases lX (show (s.opens.set j { op with pos:=p })[j2]?=some op2 from ho2) with ⟨_,e,_⟩ | ⟨_,h2⟩
  ·rw [e];exact h.v2 j op ho
  ·exact h.v2 j2 op2 h2
 ·rcases hb m j2 op2 f hl with ⟨e,_⟩ | hl
  ·rw [e];exact hp
  ·exact h.pos m j2 op2 f hl
 ·rcases hb m j2 op2 f hl with ⟨_,hl⟩ | hl
  ·exact h.fil m j2 op f hl
  ·exact h.fil m j2 op2 f hl
theorem PM.Sy.Good.keep (h:s.Good) {n j:Nat} {op:Opn} {f:Fl} {t:ByteArray} (hl:s.fB n j op f) (ht:t.size≤100) (he:s.cZ f t=0):(s.eB op.file f t).Good:=by
 have hf:=h.fil n j op f hl
 unfold Sy.cZ at he
 unfold Sy.eB
 split
 ·exact h
 ·rename_i h1
  rw [if_neg h1] at he
  split
  ·exact h.file ⟨ht,hf.2.1,hf.2.2⟩
  ·rename_i h2
   rw [if_neg h2] at he
   exact (h.put he (.inl rfl)).1
theorem EG {free:Bool} {l:List LK.Lk} {x:LK.Lk} (hw:∃ r:Int × List LK.Lk,LK.KM.fT free l x r.1 r.2) (h:(bG free l x).1=0):(bG free l x).2.length≤40:=by
 obtain ⟨r,hr⟩:=hw
 obtain ⟨e1,e2⟩:=jU hr
 rw [← e1] at h
 rw [← e2]
 rcases hr with ⟨a,b,c⟩ | ⟨_,_,_,b,c⟩ | ⟨_,_,m',_,_,⟨_,b,c⟩ | ⟨b,_,c⟩⟩
 ·rw [c];simp
 ·rw [c];simp
 ·rw [c];simp
 ·rw [c];exact b
theorem vI {free:Bool} {l:List LK.Lk} {x:LK.Lk} (h:(bG free l x).1=0):(bG free l x).2.length≤40:=by
 by_cases hw:∃ r:Int × List LK.Lk,LK.KM.fT free l x r.1 r.2
 ·exact EG hw h
 ·rw [bG,dif_neg hw];simp
theorem PM.Sy.Good.on (h:s.Good) {ow k:Nat} {ck cn cm:Int} {cx:ByteArray} {ca:Bool} {j:Nat} {op:Opn} {f:Fl} (ho:ow<4) (hk:k<8) (hl:s.fB (ow*8+k) j op f) (he:(s.onR ow k ck cn cm cx ca j op f).1=0):(s.onR ow k ck cn cm cx ca j op f).2.1.Good:=by
 have hf:=h.fil _ _ _ _ hl
 have hp:=h.pos _ _ _ _ hl
 have ht:=textOf_size hf
 unfold Sy.onR at he ⊢
 split
 ·refine (h.number (by omega) (fun x hx=>by cases hx)).file ⟨hf.1,Nat.le_trans (List.length_filter_le _ _) hf.2.1,hf.2.2⟩
 rename_i e2
 rw [if_neg e2] at he
 split
 ·rename_i e13
  rw [if_pos e13] at he
  have hR:¬ s.aV ow<0:=by
   intro hR;simp only [if_pos hR] at he;cases he
  refine h.number ?_ (fun x hx=>by cases hx;exact ⟨_,hl.hfd⟩)
  rcases lU s ow with e | ⟨k',hk',e,_⟩
  ·omega
  ·rw [e];show ow*8+k'<32;omega
 rename_i e13
 rw [if_neg e13] at he
 split
 ·rename_i e5
  rw [if_pos e5] at he
  have he:pJ cn=0:=he
  unfold pJ at he
  split at he
  ·cases he
  ·exact h.place hl.hop (by omega)
 rename_i e5
 rw [if_neg e5] at he
 split
 ·rename_i e14
  rw [if_pos e14] at he
  exact h.file ⟨hf.1,vI he,hf.2.2⟩
 rename_i e14
 rw [if_neg e14] at he
 split
 ·rename_i e15
  rw [if_pos e15] at he
  exact h.file ⟨hf.1,vI he,hf.2.2⟩
 rename_i e15
 rw [if_neg e15] at he
 split
 ·refine h.place hl.hop ⟨by omega,?_⟩
  unfold gI
  simp only [ByteArray.size_extract]
  omega
 rename_i e3
 rw [if_neg e3] at he
 split
 ·rename_i e4
  rw [if_pos e4] at he
  have he:s.wu op f cx=0:=he
  have hat:0≤s.wrAt op f∧s.wrAt op f≤1000:=by unfold Sy.wrAt;split <;> omega
  unfold Sy.wu at he
  split at he
  ·cases he
  split at he
  ·cases he
  rename_i hm
  show (s.wrDo j op f cx).Good
  unfold Sy.wrDo
  have htw:(dX (s.textOf f) cx (s.wrAt op f)).size≤100:=by
   unfold dX
   split
   ·exact ht
   ·rename_i hx
    have h1:=iO (s.textOf f) (s.wrAt op f) hat.1
    have h2:¬ 100<s.wrAt op f+cx.size:=fun h2=>hm ⟨hx,h2⟩
    rw [ByteArray.size_append,ByteArray.size_append,ByteArray.size_extract]
    omega
  refine (h.keep hl htw he).place (by rw [kV];exact hl.hop) ⟨by omega,?_⟩
  by_cases hx:cx.data.toList=[]
  ·have:cx.size=0:=by have h9:=szl cx;rw [hx,List.length_nil] at h9;omega
   omega
  ·have h2:¬ 100<s.wrAt op f+cx.size:=fun h2=>hm ⟨hx,h2⟩
   omega
 rename_i e4
 rw [if_neg e4] at he
 have he:s.qW op f cn=0:=he
 unfold Sy.qW at he
 split at he
 ·cases he
 split at he
 ·cases he
 rename_i hn
 have:=iO (s.textOf f) cn (by omega)
 exact h.keep hl (by omega) he
theorem PM.Sy.Good.num' (h:s.Good) {ow:Nat} {ck cf cn cm:Int} {cx:ByteArray} {ca:Bool} (ho:ow<4) (he:(s.numR ow ck cf cn cm cx ca).1=0):(s.numR ow ck cf cn cm cx ca).2.1.Good:=by
 unfold Sy.numR at he ⊢
 split
 ·exact h
 ·rename_i hf
  rw [if_neg hf] at he
  split
  ·exact h
  ·rename_i j hj
   simp only [hj] at he
   split
   ·exact h
   ·rename_i op hop
    simp only [hop] at he
    split
    ·exact h
    ·rename_i f hfl
     simp only [hfl] at he
     exact h.on ho (by omega) ⟨hj,hop,hfl⟩ he
theorem PM.Sy.Good.step (h:s.Good) {c:Cl} (he:(s.eY c).1=0):(s.eY c).2.1.Good:=by
 unfold Sy.eY at he ⊢
 split
 ·exact h
 rename_i e
 rw [if_neg e] at he
 split
 ·exact h
 rename_i hw
 rw [if_neg hw] at he
 have ho:c.owner.toNat<4:=by omega
 split
 ·rename_i e
  rw [if_pos e] at he
  exact h.open ho he
 rename_i e
 rw [if_neg e] at he
 split
 ·rename_i e
  rw [if_pos e] at he
  exact h.add he
 rename_i e
 rw [if_neg e] at he
 split
 ·rename_i e
  rw [if_pos e] at he
  exact h.add he
 rename_i e
 rw [if_neg e] at he
 split
 ·rename_i e
  rw [if_pos e] at he
  exact h.remove he
 rename_i e
 rw [if_neg e] at he
 split
 ·rename_i e
  rw [if_pos e] at he
  exact h.rename he
 rename_i e
 rw [if_neg e] at he
 split
 ·exact h
 rename_i e
 rw [if_neg e] at he
 split
 ·exact h
 rename_i e
 rw [if_neg e] at he
 exact h.num' ho he
theorem PM.Sy.Good.answer (h:s.Good) (c:Cl):(s.answer c).1.Good:=by
 unfold Sy.answer
 split
 ·rename_i e;exact h.step e
 ·exact h
end
theorem yT:∀ (l:List Cl) {s:Sy},s.Good→(s.run l).1.Good
 | [],s,h=>h
 | c::r,s,h=>yT r (h.answer c)
theorem good_start {up:List Ent} {lows:List (List Ent)} (h:(ay (up::lows)).1=0):(aO up lows).Good :=
 ⟨h,fun n j hj=>by simp [aO] at hj,fun n j hj=>by simp [aO] at hj,fun j op ho=>by simp [aO] at ho,fun n j op f hl=>by have:=hl.hfd;simp [aO] at this,fun n j op f hl=>by have:=hl.hfd;simp [aO] at this⟩
theorem uS (y:Lay) (lo:List Lay) (pl:Option Addr) (cl:Nat) (pc:Option Addr) (cc:Nat) (l:List Cl) (W:World) (hU:UnOK W y lo pl cl) (hg:Gl W.heap.size W) (h0:(ay (y.es::lo.map (·.es))).1=0) (hn:l.length≤80) (hC:fC W pc l) (hs:∀ c∈l,c.Small) :
  Calls Tryz.prog 16 #[.agg #[.slice y.ad y.es.length y.cap,.slice pl lo.length cl],.slice pc l.length cc] W (nC ((aO y.es (lo.map (·.es))).run l).1 ((aO y.es (lo.map (·.es))).run l).2 W) :=
 IV y lo pl cl pc cc l W hU hg h0 hn hC hs (fun k _=>(yT _ (good_start h0)).fine)
def fP:List Ent:=[⟨⟨#[97]⟩,1,⟨#[104,101,108,108,111]⟩,false⟩]
def jr:List Cl:=[⟨1,0,0,1,0,⟨#[97]⟩,⟨#[]⟩,⟨#[]⟩,false⟩,⟨8,0,0,0,0,⟨#[97]⟩,⟨#[]⟩,⟨#[]⟩,false⟩,⟨3,0,0,3,0,⟨#[]⟩,⟨#[]⟩,⟨#[]⟩,false⟩]
theorem zH:(ay [[],fP]).1=0:=by decide
set_option maxRecDepth 1000000 in
theorem FD:(((aO [] [fP]).run jr).2[2]?).map (·.text.data.toList)=some [104,101,108]:=by decide +kernel
set_option maxRecDepth 1000000 in
theorem FC:((aO [] [fP]).run jr).1.seen.length=0:=by decide +kernel
set_option maxRecDepth 1000000 in
theorem FB:((aO [] [fP]).run jr).1.reach.length=1:=by decide +kernel
theorem Bd {l:List Cl} {i j:Nat} {c:Cl} {v:Value} (h:l[i]?=some c) (hv:(encC c)[j]?=some v):(l.flatMap encC)[i*9+j]?=some v:=by
 have hj:j<9:=(List.getElem?_eq_some_iff.1 hv).1
 induction l generalizing i with
 | nil=>simp at h
 | cons x r ih =>
  rw [List.flatMap_cons]
  cases i with
  | zero=>simp at h;subst h;rw [List.getElem?_append_left (by show _<9;omega)];simpa using hv
  | succ i =>
   rw [List.getElem?_append_right (by show 9≤_;omega),show (i+1)*9+j-(encC x).length=i*9+j from by show (i+1)*9+j-9=_;omega]
   exact ih (by simpa using h)
theorem wX (W:World) (l:List Cl) (a:Array Value) (ha:a=(l.flatMap encC).toArray):fC (W.alloc (.cells a 50)) (some ⟨W.heap.size,0,none⟩) l:=by
 subst ha
 refine .inr ⟨W.heap.size,0,rfl,by simp,fun i c hc j v hv=>?_⟩
 have h1:=Bd hc hv
 have h2:(W.alloc (.cells (l.flatMap encC).toArray 50)).heap[W.heap.size]?=some (.cells (l.flatMap encC).toArray 50):=heap_alloc_last W _
 simp only [World.cell?,h2,Nat.zero_add]
 simp [h1]
theorem fC.kept {W W':World} {p:Option Addr} {l:List Cl} (h:fC W p l) (hB:Below W.heap.size W W'):fC W' p l:=by
 rcases h with h | ⟨b,off,hp,hb,hc⟩
 ·exact .inl h
 ·exact .inr ⟨b,off,hp,Nat.lt_of_lt_of_le hb hB.size,fun i c hi j v hv=>(hB.cell (p:=⟨b,off+i*9+j,none⟩) hb).trans (hc i c hi j v hv)⟩
theorem Gl.up {W W':World} (h:Gl W.heap.size W) (hB:Below W.heap.size W W'):Gl W'.heap.size W':=⟨Nat.lt_of_lt_of_le h.1 hB.size,(h.kept hB).2⟩
def uo:Array Value:=#[.string ⟨#[97]⟩,.int .i64 1,.string ⟨#[104,101,108,108,111]⟩,.bool false]
theorem Dq (w:World):Calls Tryz.prog 47 #[] w fun r w'=>∃ b b',r=.returned (.agg #[.slice none 0 0,.slice (some ⟨b',0,none⟩) 1 1])∧UnOK w' ⟨none,0,[]⟩ [⟨some ⟨b,0,none⟩,1,fP⟩] (some ⟨b',0,none⟩) 1∧Below w.heap.size w w':=by
 go_enter Tryz.func47,Tryz.ntmps47
 go_wp2
 refine bodyPost_ret (v:=.agg #[.slice none 0 0,.slice (some ⟨w.heap.size+1+1,0,none⟩) 1 1]) (by simp [results,Tryz.results47,go_sem]) rfl ?_
 have hO:=(oq (w.alloc (.cells #[.slice none 0 0,.slice (some ⟨w.heap.size+1+1,0,none⟩) 1 1] 26)) uo 1 fP rfl (by decide) (by unfold maxLen;decide) (fun k v hk=>by
   have:(fP.flatMap encE)=uo.toList:=rfl
   rw [this,Array.getElem?_toList] at hk;exact hk)).grown ((Grown.refl _).alloc (.cells #[.slice (some ⟨w.heap.size+1,0,none⟩) 1 1] 23))
 have hs:(w.alloc (.cells #[.slice none 0 0,.slice (some ⟨w.heap.size+1+1,0,none⟩) 1 1] 26)).heap.size=w.heap.size+1:=World.size_alloc _ _
 rw [hs] at hO
 refine ⟨w.heap.size+1,w.heap.size+1+1,rfl,⟨⟨Lies.nil _ _,fun e he=>by simp at he,Nat.le_refl _,by decide⟩,fun _=>rfl,.inr ⟨w.heap.size+1+1,0,rfl,by simp,fun j x hx=>?_⟩,fun x hx=>?_,nofun,Nat.le_refl _⟩,(((Below.refl _ _).alloc (Nat.le_refl _) _).alloc (by simp) _).alloc (by simp;omega) _⟩
 ·cases j with
  | zero =>
   simp at hx
   subst hx
   exact qP _ _ (by simp) _ _
  | succ j=>simp at hx
 ·rw [List.mem_singleton] at hx
  subst hx
  exact ⟨⟨hO.lies,by intro e he;simp [fP] at he;subst he;exact ⟨by show (ByteArray.mk #[97]).size≤_;unfold maxLen;decide,by show (ByteArray.mk #[104,101,108,108,111]).size≤_;unfold maxLen;decide⟩,Nat.le_refl _,by show fP.length<_;decide⟩,nofun⟩
set_option maxRecDepth 100000 in
set_option maxHeartbeats 1000000 in
theorem mY (w:World) (hg:Gl w.heap.size w):Calls Tryz.prog 20 #[] w fun r w'=>r=.returned (.bool true)∧Below w.heap.size w w':=by
 have hsm:=Dq w
 have hpl:∀ (W:World) (b b':Nat) (H:Nat),UnOK W ⟨none,0,[]⟩ [⟨some ⟨b,0,none⟩,1,fP⟩] (some ⟨b',0,none⟩) 1→Gl W.heap.size W→fC W (some ⟨H,0,none⟩) jr →
   Calls Tryz.prog 16 #[.agg #[.slice none 0 0,.slice (some ⟨b',0,none⟩) 1 1],.slice (some ⟨H,0,none⟩) 3 3] W (fun r w'=>∃ a0 k0 c0 a1 k1 c1 ps sc b ac,r=.returned (.tuple #[.agg #[.slice a0 k0 c0,.slice a1 k1 c1,.slice ps 0 sc,.int .i64 1],.slice (some ⟨b,0,none⟩) 3 ac,.int .i64 0])∧w'.cell? ⟨b,10,none⟩=some (.string ⟨#[104,101,108]⟩)∧Below W.heap.size W w'):=fun W b b' H hU hG hC=>by
  have h:=uS ⟨none,0,[]⟩ [⟨some ⟨b,0,none⟩,1,fP⟩] (some ⟨b',0,none⟩) 1 (some ⟨H,0,none⟩) 3 jr W hU hG zH (by decide) hC (fun c hc=>by simp [jr] at hc;rcases hc with rfl | rfl | rfl <;> exact ⟨by decide,by decide,by decide⟩)
  refine h.mono fun r w' ⟨y,lo,pl,cl,ps,sc,yn,ln,sn,op,pa,na,ac,e,hB,hx⟩=>?_
  obtain ⟨e1,e2,e3,e4,e5,e6,e7,e8,e9,e10,e11,e12,e13,e14⟩:=hx.out
  have h1:((aO [] [fP]).run jr).1.seen.length=0:=FC
  have h2:((aO [] [fP]).run jr).1.reach.length=1:=FB
  have h3:((aO [] [fP]).run jr).2.length=3:=by rw [wK];rfl
  have h4:=FD
  rw [show sn=0 from e3.trans h1,show op=1 from e4.trans h2,show na=3 from e11.trans h3] at e
  rcases e14 with e14 | ⟨b1,hp,_,hc⟩
  ·have e14:((aO [] [fP]).run jr).2=[]:=e14
   rw [e14] at h3;cases h3
  ·rw [hp] at e
   cases ha:((aO [] [fP]).run jr).2[2]? with
   | none=>rw [ha] at h4;cases h4
   | some a =>
    rw [ha] at h4
    obtain ⟨_,_,_,_,_,hc2,_⟩:=hc 2 a ha
    have ht:a.text=⟨#[104,101,108]⟩:=dz (by simpa using h4)
    rw [ht] at hc2
    exact ⟨_,_,_,_,_,_,_,_,_,_,e,hc2,hB⟩
 have HG:Aside (Gl w.heap.size w):=hg
 clear hg
 go_enter Tryz.func20,Tryz.ntmps20
 go_wp2_with (first
  | (go_at_call 47;refine hsm.mono ?_;clear hsm;rintro r w3 ⟨b,b',rfl,hU,hB3⟩;have H3:Aside (UnOK w3 ⟨none,0,[]⟩ [⟨some ⟨b,0,none⟩,1,fP⟩] (some ⟨b',0,none⟩) 1∧Below w.heap.size w w3):=⟨hU,hB3⟩;clear hU hB3)
  | (go_at_call 16;refine (hpl _ b b' _ (H3.out.1.kept ((Grown.refl w3).alloc _).below) (HG.out.up (Below.onto H3.out.2 ((Grown.refl w3).alloc _).below)) (wX w3 jr _ rfl)).mono ?_;clear hpl;rintro r w5 ⟨a0,k0,c0,a1,k1,c1,ps,sc,b1,ac,rfl,hc,hB5⟩;have H5:Aside (Below w.heap.size w w5):=Below.onto (Below.onto H3.out.2 ((Grown.refl w3).alloc _).below) hB5;have hc':=Lib.cell?_alloc_some (.cells #[.slice a0 k0 c0,.slice a1 k1 c1,.slice ps 0 sc,.int .i64 1] 29) hc;clear hB5))
 go_ret
 exact ⟨rfl,H5.out.alloc H5.out.size _⟩
end Go.Proofs.YthfeoiffoeagkaaGreatDoor
