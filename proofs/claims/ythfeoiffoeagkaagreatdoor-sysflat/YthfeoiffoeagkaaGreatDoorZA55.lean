/-
  SysFlat: nobody sees the layers.
-/
import Derived.Test.YthfeoiffoeagkaaGreatDoorZA35
namespace Go.Proofs.YthfeoiffoeagkaaGreatDoor
open Go.RowKit PM Go.Sort
set_option linter.unusedVariables false
namespace PM
structure yF (x:Sy) (u:List Ent) (l:List (List Ent)):Prop where
 seen:aB (u::l)=aB x.all
 un1:(ay (u::l)).1=0
 un2:(ay x.all).1=0
def Near (a b:Int):Prop:=a=5∨b=5∨a=b
theorem Aa {c:Prop} [Decidable c] {k a b:Int} (h:¬ c→Near a b):Near (if c then k else a) (if c then k else b):=by
 by_cases hc:c
 ·rw [if_pos hc,if_pos hc];exact .inr (.inr rfl)
 ·rw [if_neg hc,if_neg hc];exact h hc
theorem LC {c c':Prop} [Decidable c] [Decidable c'] {k a b:Int} (hc:c↔c') (h:¬ c'→Near a b):Near (if c then k else a) (if c' then k else b):=by
 by_cases g:c'
 ·rw [if_pos g,if_pos (hc.2 g)];exact .inr (.inr rfl)
 ·rw [if_neg g,if_neg (fun e=>g (hc.1 e))];exact h g
theorem Km {a b k:Int} {n m:Nat} (ha:a=0) (hb:b=0):Near (aF a k n) (aF b k m):=by
 subst ha hb
 unfold aF Near
 by_cases hk:k=0
 ·subst hk
  by_cases h1:80<n <;> by_cases h2:80<m <;> simp [h1,h2]
 ·simp [hk]
section
variable {x:Sy} {u:List Ent} {l:List (List Ent)} (h:yF x u l)
include h
theorem yF.sn:(x.aJ u l).seen=x.seen:=h.seen
theorem yF.tx (f:Fl):(x.aJ u l).textOf f=x.textOf f:=by unfold Sy.textOf;rw [h.sn]
theorem yF.put {e:Ent} (h1:aF (ay (u::l)).1 (aQ x.seen e) (aC u e).length=0) (h2:aF (ay x.all).1 (aQ x.seen e) (aC x.up e).length=0):yF (x.aJ (aC x.up e) x.lows) (aC u e) l:=by
 have h1':aF (ay (u::l)).1 (aQ (aB (u::l)) e) (aC u e).length=0:=by rw [h.seen];exact h1
 obtain ⟨a1,a2⟩:=oz h1'
 obtain ⟨b1,b2⟩:=oz (up:=x.up) (lows:=x.lows) h2
 exact ⟨by rw [a2,h.seen];exact b2.symm,a1,b1⟩
theorem yF.opened (q:ByteArray) (use:Int) (n:Nat):(x.aJ u l).opened q use n=(x.opened q use n).aJ u l∧yF (x.opened q use n) u l:=by
 have ho:(x.aJ u l).pG q=x.pG q:=rfl
 unfold Sy.opened Sy.fileAt
 rw [ho]
 cases x.pG q with
 | none=>exact ⟨rfl,h.seen,h.un1,h.un2⟩
 | some i=>exact ⟨rfl,h.seen,h.un1,h.un2⟩
theorem yF.release (q:ByteArray):(x.aJ u l).release q=(x.release q).aJ u l:=by
 have:(x.aJ u l).relF q=x.relF q:=by
  funext f
  unfold Sy.relF
  rw [h.tx]
 unfold Sy.release
 rw [this]
 rfl
theorem yF.LZ (o:Nat) (n:Int) (p:ByteArray):Near ((x.aJ u l).gV o n p) (x.gV o n p):=by
 have hf:(x.aJ u l).aV o=x.aV o:=rfl
 have hl:(x.aJ u l).opL n p=x.opL n p:=by unfold Sy.opL;rw [h.sn]
 unfold Sy.gV
 rw [hf,hl]
 refine Aa fun _=>Aa fun _=>Aa fun _=>?_
 have hi:(x.aJ u l).asIs (x.opL n p).2 n↔x.asIs (x.opL n p).2 n:=by unfold Sy.asIs;rw [h.sn]
 unfold Sy.gB
 rw [h.sn]
 exact Aa fun _=>Aa fun _=>Aa fun _=>LC hi fun _=>Km h.un1 h.un2
end
theorem KZ {s:Sy} {o:Nat} {n:Int} {p:ByteArray} (h0:s.gV o n p=0) (ha:¬ s.asIs (s.opL n p).2 n):aF (ay s.all).1 (aQ s.seen ⟨baL (s.opL n p).2,1,⟨#[]⟩,false⟩) (aC s.up ⟨baL (s.opL n p).2,1,⟨#[]⟩,false⟩).length=0:=by
 unfold Sy.gV at h0
 split at h0
 ·cases h0
 split at h0
 ·cases h0
 split at h0
 ·rename_i g;exact absurd h0 g
 unfold Sy.gB at h0
 split at h0
 ·cases h0
 split at h0
 ·cases h0
 split at h0
 ·cases h0
 first
  | exact h0
  | (rw [if_neg ha] at h0;exact h0)
section
variable {x:Sy} {u:List Ent} {l:List (List Ent)} (h:yF x u l)
include h
theorem yF.jw {o:Nat} {n:Int} {p:ByteArray} (h1:(x.aJ u l).gV o n p=0) (h2:x.gV o n p=0):∃ u' l',(x.aJ u l).jw o n p=(x.jw o n p).aJ u' l'∧yF (x.jw o n p) u' l':=by
 have hf:(x.aJ u l).aV o=x.aV o:=rfl
 have hl:(x.aJ u l).opL n p=x.opL n p:=by unfold Sy.opL;rw [h.sn]
 have hi:(x.aJ u l).asIs (x.opL n p).2 n=x.asIs (x.opL n p).2 n:=by unfold Sy.asIs;rw [h.sn]
 unfold Sy.jw
 rw [hf,hl]
 unfold Sy.gX
 by_cases ha:x.asIs (x.opL n p).2 n
 ·rw [if_pos ha,if_pos (by rw [hi];exact ha)]
  obtain ⟨e1,e2⟩:=h.opened (baL (x.opL n p).2) n (o*8+(x.aV o).toNat)
  exact ⟨u,l,e1,e2⟩
 ·rw [if_neg ha,if_neg (by rw [hi];exact ha)]
  have c1:=KZ h1 (by rw [hl,hi];exact ha)
  rw [hl,h.sn] at c1
  have hp:=h.put c1 (KZ h2 ha)
  obtain ⟨e1,e2⟩:=hp.opened (baL (x.opL n p).2) n (o*8+(x.aV o).toNat)
  exact ⟨_,_,e1,e2⟩
theorem yF.addE (p:ByteArray) (k:Int) (t:ByteArray):(x.aJ u l).gM p k t=x.gM p k t:=by unfold Sy.gM;rw [h.sn]
theorem yF.jq (p:ByteArray) (k:Int) (t:ByteArray):Near ((x.aJ u l).jq p k t) (x.jq p k t):=by
 unfold Sy.jq
 rw [h.addE,h.sn]
 exact Aa fun _=>Aa fun _=>Km h.un1 h.un2
theorem yF.add {p:ByteArray} {k:Int} {t:ByteArray} (h1:(x.aJ u l).jq p k t=0) (h2:x.jq p k t=0):yF (x.aJ (aC x.up (x.gM p k t)) x.lows) (aC u (x.gM p k t)) l:=by
 unfold Sy.jq at h1 h2
 rw [h.addE,h.sn] at h1
 split at h1
 ·rename_i g;exact absurd h1 g
 rename_i g
 rw [if_neg g] at h2
 split at h1
 ·cases h1
 rename_i g
 rw [if_neg g] at h2
 exact h.put h1 h2
theorem yF.rq (p:ByteArray):(x.aJ u l).rmQ p=x.rmQ p:=by unfold Sy.rmQ;rw [h.sn]
theorem yF.jm (k:Int) (p:ByteArray):Near ((x.aJ u l).jm k p) (x.jm k p):=by
 unfold Sy.jm
 rw [h.rq,h.sn]
 exact Aa fun _=>Aa fun _=>Aa fun _=>Aa fun _=>Aa fun _=>Km h.un1 h.un2
theorem yF.rm {k:Int} {p:ByteArray} (h1:(x.aJ u l).jm k p=0) (h2:x.jm k p=0):∃ u' l',(x.aJ u l).rmDo p=(x.rmDo p).aJ u' l'∧yF (x.rmDo p) u' l':=by
 unfold Sy.jm at h1 h2
 rw [h.rq,h.sn] at h1
 split at h1
 ·rename_i g;exact absurd h1 g
 rename_i g
 rw [if_neg g] at h2
 split at h1
 ·cases h1
 rename_i g
 rw [if_neg g] at h2
 split at h1
 ·cases h1
 rename_i g
 rw [if_neg g] at h2
 split at h1
 ·cases h1
 rename_i g
 rw [if_neg g] at h2
 split at h1
 ·cases h1
 rename_i g
 rw [if_neg g] at h2
 have eq:(baL (x.rmQ p)).data.toList=x.rmQ p:=by simp [baL]
 have h1':aF (ay (u::l)).1 (bB (aB (u::l)) (baL (x.rmQ p)).data.toList) (aL u (au l).2 (baL (x.rmQ p))).length=0:=by rw [h.seen,eq];exact h1
 have h2':aF (ay (x.up::x.lows)).1 (bB (aB (x.up::x.lows)) (baL (x.rmQ p)).data.toList) (aL x.up (au x.lows).2 (baL (x.rmQ p))).length=0:=by rw [eq];exact h2
 obtain ⟨a1,a2⟩:=mR h1'
 obtain ⟨b1,b2⟩:=mR h2'
 refine ⟨aL u (au l).2 (baL (x.rmQ p)),l,?_,?_,a1,b1⟩
 ·unfold Sy.rmDo
  rw [h.rq,h.release]
  rfl
 ·rw [a2,h.seen]
  exact b2.symm
theorem yF.jP (a b:ByteArray):Near ((x.aJ u l).jP a b) (x.jP a b):=by
 unfold Sy.jP
 rw [h.rq,h.rq,h.sn]
 exact Aa fun _=>Aa fun _=>Aa fun _=>Km h.un1 h.un2
theorem yF.ren {a b:ByteArray} (h1:(x.aJ u l).jP a b=0) (h2:x.jP a b=0):∃ u' l',(x.aJ u l).lC a b=(x.lC a b).aJ u' l'∧yF (x.lC a b) u' l':=by
 unfold Sy.jP at h1 h2
 rw [h.rq,h.rq,h.sn] at h1
 split at h1
 ·rename_i g;exact absurd h1 g
 rename_i g
 rw [if_neg g] at h2
 split at h1
 ·rename_i g;exact absurd h1 g
 rename_i g
 rw [if_neg g] at h2
 split at h1
 ·cases h1
 rename_i g
 rw [if_neg g] at h2
 generalize hfr:baL (x.rmQ a)=fr at h1 h2
 generalize hto:baL (x.rmQ b)=q at h1 h2
 have h1':aF (ay (x.aJ u l).all).1 (bg (x.aJ u l).seen fr q) ((x.aJ u l).iE fr q).length=0:=by rw [h.sn];exact h1
 obtain ⟨a1,a2,a3⟩:=xC h1'
 obtain ⟨b1,b2,b3⟩:=xC h2
 refine ⟨(x.aJ u l).iE fr q,l,?_,?_,a1,?_⟩
 ·unfold Sy.lC
  rw [h.rq,h.rq,hfr,hto]
  unfold Sy.renamed
  split
  ·rfl
  ·rw [h.release];rfl
 ·show aB ((x.aJ u l).iE fr q::l)=(x.lC a b).seen
  have e:(x.lC a b).seen=aB (x.iE fr q::x.lows):=by
   unfold Sy.lC
   rw [hfr,hto]
   rfl
  rw [e]
  by_cases hq:fr.data.toList=q.data.toList
  ·have z1:aB ((x.aJ u l).iE fr q::l)=(x.aJ u l).seen:=a2 hq
   rw [z1,h.sn]
   exact (b2 hq).symm
  ·have z1:=(a3 hq).1
   rw [h.sn] at z1
   have z2:=(b3 hq).1
   refine jW (aK _).sorted (aK _).sorted fun e=>?_
   exact (z1.mem_iff (a:=e)).trans (z2.mem_iff (a:=e)).symm
 ·show (ay (x.lC a b).all).1=0
  unfold Sy.lC
  rw [hfr,hto]
  exact b1
theorem yF.cZ (f:Fl) (t:ByteArray):Near ((x.aJ u l).cZ f t) (x.cZ f t):=by
 unfold Sy.cZ
 rw [h.tx,h.sn]
 exact Aa fun _=>Aa fun _=>Km h.un1 h.un2
theorem yF.keep (i:Nat) {f:Fl} {t:ByteArray} (h1:(x.aJ u l).cZ f t=0) (h2:x.cZ f t=0):∃ u' l',(x.aJ u l).eB i f t=(x.eB i f t).aJ u' l'∧yF (x.eB i f t) u' l':=by
 unfold Sy.cZ at h1 h2
 rw [h.tx,h.sn] at h1
 unfold Sy.eB
 rw [h.tx]
 by_cases g:t.data.toList=(x.textOf f).data.toList
 ·rw [if_pos g,if_pos g]
  exact ⟨u,l,rfl,h⟩
 ·rw [if_neg g] at h1 h2
  rw [if_neg g,if_neg g]
  by_cases g2:f.path.data.toList=[]
  ·rw [if_pos g2,if_pos g2]
   exact ⟨u,l,rfl,h.seen,h.un1,h.un2⟩
  ·rw [if_neg g2] at h1 h2
   rw [if_neg g2,if_neg g2]
   exact ⟨_,l,rfl,h.put h1 h2⟩
def Ki (x:Sy) (u:List Ent) (l:List (List Ent)) (a b:Int × Sy × An):Prop:=Near a.1 b.1∧(a.1=0→b.1=0→a.2.2=b.2.2∧∃ u' l',a.2.1=b.2.1.aJ u' l'∧yF b.2.1 u' l')
end
theorem J7 (a:Int):Near a a:=.inr (.inr rfl)
section
variable {x:Sy} {u:List Ent} {l:List (List Ent)} (h:yF x u l)
include h
end
theorem J6 {x:Sy} {u:List Ent} {l:List (List Ent)} {c:Prop} [Decidable c] {a a' b b':Int × Sy × An} (h1:c→Ki x u l a a') (h2:¬ c→Ki x u l b b'):Ki x u l (if c then a else b) (if c then a' else b'):=by
 by_cases hc:c
 ·rw [if_pos hc,if_pos hc];exact h1 hc
 ·rw [if_neg hc,if_neg hc];exact h2 hc
section
variable {x:Sy} {u:List Ent} {l:List (List Ent)} (h:yF x u l)
include h
theorem yF.on (ow k:Nat) (ck cn cm:Int) (cx:ByteArray) (ca:Bool) (j:Nat) (op:Opn) (f:Fl):Ki x u l ((x.aJ u l).onR ow k ck cn cm cx ca j op f) (x.onR ow k ck cn cm cx ca j op f):=by
 have hf:(x.aJ u l).aV ow=x.aV ow:=rfl
 unfold Sy.onR
 rw [h.tx,hf]
 split
 ·exact ⟨J7 _,fun _ _=>⟨rfl,u,l,rfl,h.seen,h.un1,h.un2⟩⟩
 split
 ·exact ⟨J7 _,fun _ _=>⟨rfl,u,l,rfl,h.seen,h.un1,h.un2⟩⟩
 split
 ·exact ⟨J7 _,fun _ _=>⟨rfl,u,l,rfl,h.seen,h.un1,h.un2⟩⟩
 split
 ·exact ⟨J7 _,fun _ _=>⟨rfl,u,l,rfl,h.seen,h.un1,h.un2⟩⟩
 split
 ·exact ⟨J7 _,fun _ _=>⟨rfl,u,l,rfl,h.seen,h.un1,h.un2⟩⟩
 split
 ·exact ⟨J7 _,fun _ _=>⟨rfl,u,l,rfl,h.seen,h.un1,h.un2⟩⟩
 have hat:(x.aJ u l).wrAt op f=x.wrAt op f:=by unfold Sy.wrAt;rw [h.tx]
 split
 ·refine ⟨?_,fun h1 h2=>⟨rfl,?_⟩⟩
  ·show Near ((x.aJ u l).wu op f cx) (x.wu op f cx)
   unfold Sy.wu
   rw [hat,h.tx]
   exact Aa fun _=>Aa fun _=>h.cZ _ _
  ·have h1:(x.aJ u l).wu op f cx=0:=h1
   have h2:x.wu op f cx=0:=h2
   unfold Sy.wu at h1 h2
   rw [hat,h.tx] at h1
   split at h1
   ·cases h1
   rename_i g
   rw [if_neg g] at h2
   split at h1
   ·cases h1
   rename_i g
   rw [if_neg g] at h2
   obtain ⟨u',l',e1,e2⟩:=h.keep op.file h1 h2
   refine ⟨u',l',?_,?_,e2.un1,e2.un2⟩
   ·show (x.aJ u l).wrDo j op f cx=(x.wrDo j op f cx).aJ u' l'
    unfold Sy.wrDo
    rw [hat,h.tx,e1]
    rfl
   ·exact e2.seen
 ·refine ⟨?_,fun h1 h2=>⟨rfl,?_⟩⟩
  ·show Near ((x.aJ u l).qW op f cn) (x.qW op f cn)
   unfold Sy.qW
   rw [h.tx]
   exact Aa fun _=>Aa fun _=>h.cZ _ _
  ·have h1:(x.aJ u l).qW op f cn=0:=h1
   have h2:x.qW op f cn=0:=h2
   unfold Sy.qW at h1 h2
   rw [h.tx] at h1
   split at h1
   ·cases h1
   rename_i g
   rw [if_neg g] at h2
   split at h1
   ·cases h1
   rename_i g
   rw [if_neg g] at h2
   exact h.keep op.file h1 h2
theorem yF.step (c:Cl):Ki x u l ((x.aJ u l).eY c) (x.eY c):=by
 have same:∀ k a,Ki x u l (k,x.aJ u l,a) (k,x,a):=fun k a=>⟨J7 _,fun _ _=>⟨rfl,u,l,rfl,h⟩⟩
 unfold Sy.eY
 refine J6 (fun _=>same _ _) fun _=>J6 (fun _=>same _ _) fun _=>J6 (fun _=>⟨h.LZ _ _ _,fun h1 h2=>⟨rfl,h.jw h1 h2⟩⟩) fun _=>J6 (fun _=>?_) fun _=>J6 (fun _=>?_) fun _=>J6 (fun _=>⟨h.jm _ _,fun h1 h2=>⟨rfl,h.rm h1 h2⟩⟩) fun _=>J6 (fun _=>⟨h.jP _ _,fun h1 h2=>⟨rfl,h.ren h1 h2⟩⟩) fun _=>J6 (fun _=>?_) fun _=>J6 (fun _=>?_) fun _=>?_
 ·exact ⟨h.jq _ _ _,fun h1 h2=>⟨rfl,_,l,by show (x.aJ u l).aJ (aC u ((x.aJ u l).gM _ _ _)) l=_;rw [h.addE];rfl,h.add h1 h2⟩⟩
 ·exact ⟨h.jq _ _ _,fun h1 h2=>⟨rfl,_,l,by show (x.aJ u l).aJ (aC u ((x.aJ u l).gM _ _ _)) l=_;rw [h.addE];rfl,h.add h1 h2⟩⟩
 ·unfold Sy.sN Sy.sM
  rw [h.sn]
  exact same _ _
 ·unfold Sy.sV Sy.sU
  rw [h.sn]
  exact same _ _
 ·unfold Sy.numR
  split
  ·exact same _ _
  ·show Ki x u l (match x.fds _ with | none=>_ | some j=>_) _
   cases x.fds (c.owner.toNat*8+c.fd.toNat) with
   | none=>exact same _ _
   | some j =>
    show Ki x u l (match x.opens[j]? with | none=>_ | some op=>_) (match x.opens[j]? with | none=>_ | some op=>_)
    cases x.opens[j]? with
    | none=>exact same _ _
    | some op =>
     show Ki x u l (match x.files[op.file]? with | none=>_ | some f=>_) (match x.files[op.file]? with | none=>_ | some f=>_)
     cases x.files[op.file]? with
     | none=>exact same _ _
     | some f=>exact h.on _ _ _ _ _ _ _ _ _ _
theorem yF.answer (c:Cl):((x.aJ u l).answer c).2.err=5∨(x.answer c).2.err=5∨(((x.aJ u l).answer c).2=(x.answer c).2∧∃ u' l',((x.aJ u l).answer c).1=(x.answer c).1.aJ u' l'∧yF (x.answer c).1 u' l'):=by
 obtain ⟨h1,h2⟩:=h.step c
 unfold Sy.answer
 rcases h1 with h1 | h1 | h1
 ·left
  rw [if_neg (by rw [h1];decide),h1]
  rfl
 ·right;left
  rw [if_neg (by rw [h1];decide),h1]
  rfl
 ·right;right
  by_cases h0:(x.eY c).1=0
  ·rw [if_pos h0,if_pos (by rw [h1];exact h0)]
   exact h2 (by rw [h1];exact h0) h0
  ·rw [if_neg h0,if_neg (by rw [h1];exact h0),h1]
   exact ⟨rfl,u,l,rfl,h⟩
end
theorem KV:∀ (cs:List Cl) (x:Sy) (u:List Ent) (l:List (List Ent)),yF x u l→(∃ a∈((x.aJ u l).run cs).2,a.err=5)∨(∃ a∈(x.run cs).2,a.err=5)∨(((x.aJ u l).run cs).2=(x.run cs).2∧∃ u' l',((x.aJ u l).run cs).1=(x.run cs).1.aJ u' l'∧yF (x.run cs).1 u' l')
 | [],x,u,l,h=>.inr (.inr ⟨rfl,u,l,rfl,h⟩)
 | c::r,x,u,l,h=>by
  rw [Sy.run,Sy.run]
  simp only
  rcases h.answer c with g | g | ⟨g1,u',l',g2,g3⟩
  ·exact .inl ⟨_,by simp,g⟩
  ·exact .inr (.inl ⟨_,by simp,g⟩)
  ·rw [g2,g1]
   rcases KV r _ u' l' g3 with ⟨a,h1,h2⟩ | ⟨a,h1,h2⟩ | ⟨h1,h2⟩
   ·exact .inl ⟨a,by simp [h1],h2⟩
   ·exact .inr (.inl ⟨a,by simp [h1],h2⟩)
   ·exact .inr (.inr ⟨by rw [h1],h2⟩)
theorem Kq {t:List Ent} (h:Right false t):(ay [t]).1=0∧aB [t]=t:=by
 have hn:Right false ([]:List Ent):=⟨by simp,fun e he=>(by cases he),List.Pairwise.nil,fun e he=>(by cases he)⟩
 have ht:bP t []=[]:=rfl
 have e0:fq t []=0:=kZ.2 ⟨h.layer,hn,by unfold lg;rw [K3 h,ht,List.append_nil];exact h.len⟩
 have e1:fE t []=t:=(BA h.sorted hn.sorted (by rw [K3 h,ht,List.append_nil]) (h.sorted.imp fun {a b} hab g=>oo hab g)).symm
 have e2:au [t]=(0,t):=by
  rw [mP (x:=t) (r:=[]) rfl]
  show (fq t [],if fq t []=0 then fE t [] else [])=_
  rw [e0,if_pos rfl,e1]
 have e3:(ay [t]).1=0:=eG.2 ⟨by simp,by rw [e2],fun x hx=>by rw [List.mem_singleton] at hx;rw [hx];exact h.layer⟩
 exact ⟨e3,by rw [aB,if_pos e3,e2]⟩
theorem Lm {up:List Ent} {lows:List (List Ent)} (h:(ay (up::lows)).1=0):yF (aO (aB (up::lows)) []) up lows :=
 ⟨by show aB (up::lows)=aB [aB (up::lows)];rw [(Kq (aK _)).2],h,(Kq (aK _)).1⟩
end PM
end Go.Proofs.YthfeoiffoeagkaaGreatDoor
