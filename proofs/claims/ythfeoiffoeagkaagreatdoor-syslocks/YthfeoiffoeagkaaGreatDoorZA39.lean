/-
  SysOrphan: what is held by one number alone stays as it is.
-/
import Derived.Test.YthfeoiffoeagkaaGreatDoorZA38
namespace Go.Proofs.YthfeoiffoeagkaaGreatDoor
open Go.RowKit PM Go.Sort
set_option linter.unusedVariables false
namespace PM
structure Sy.Held (s:Sy) (T:ByteArray):Prop where
 fd:s.fds 24=some 0
 op:s.opens[0]?=some ⟨0,1,0⟩
 fl:∃ lk,s.files[0]?=some ⟨⟨#[]⟩,T,lk⟩
 oth:∀ n j,n≠24→s.fds n=some j→j≠0∧s.fileOf j≠0
 in1:∀ n j,s.fds n=some j→j<s.opens.length
variable {s:Sy} {T:ByteArray}
theorem Sy.Held.aJ (h:s.Held T) (u:List Ent) (l:List (List Ent)):(s.aJ u l).Held T:=⟨h.fd,h.op,h.fl,h.oth,h.in1⟩
theorem Sy.Held.setF (h:s.Held T) {i:Nat} (hi:i≠0) (f:Fl):(s.setF i f).Held T:=by
 obtain ⟨lk,hl⟩:=h.fl
 exact ⟨h.fd,h.op,⟨lk,by show (s.files.set i f)[0]?=_;rw [List.getElem?_set_ne hi];exact hl⟩,h.oth,h.in1⟩
theorem Ck (s:Sy) {j:Nat} {o o':Opn} (ho:s.opens[j]?=some o) (hf:o'.file=o.file) (k:Nat):(s.setO j o').fileOf k=s.fileOf k:=by
 unfold Sy.fileOf Sy.setO
 simp only
 by_cases hk:j=k
 ·subst hk
  have hlt:=(List.getElem?_eq_some_iff.1 ho).1
  rw [List.getElem?_set_self hlt,ho]
  simp [hf]
 ·rw [List.getElem?_set_ne hk]
theorem Sy.Held.setO (h:s.Held T) {j:Nat} (hj:j≠0) {o o':Opn} (ho:s.opens[j]?=some o) (hf:o'.file=o.file):(s.setO j o').Held T:=by
 refine ⟨h.fd,by show (s.opens.set j o')[0]?=_;rw [List.getElem?_set_ne hj];exact h.op,h.fl,fun n k hn hk=>?_,fun n k hk=>by show k<(s.opens.set j o').length;rw [List.length_set];exact h.in1 n k hk⟩
 rw [Ck s ho hf]
 exact h.oth n k hn hk
theorem Sy.Held.dS (h:s.Held T) {n:Nat} (hn:n≠24) (x:Option Nat) (hx:∀ j,x=some j→j≠0∧s.fileOf j≠0∧j<s.opens.length):(s.dS n x).Held T:=by
 refine ⟨?_,h.op,h.fl,fun m j hm hj=>?_,fun m j hj=>?_⟩
 ·show (if 24=n then x else s.fds 24)=_
  rw [if_neg (fun e=>hn e.symm)]
  exact h.fd
 ·have hj:(if m=n then x else s.fds m)=some j:=hj
  split at hj
  ·exact ⟨(hx j hj).1,(hx j hj).2.1⟩
  ·exact h.oth m j hm hj
 ·have hj:(if m=n then x else s.fds m)=some j:=hj
  split at hj
  ·exact (hx j hj).2.2
  ·exact h.in1 m j hj
theorem Sy.Held.upd (h:s.Held T) (g:Fl→Fl) (l:List Nat) (hg:∀ lk,g ⟨⟨#[]⟩,T,lk⟩=⟨⟨#[]⟩,T,lk⟩):(s.dF g l).Held T:=by
 obtain ⟨lk,hl⟩:=h.fl
 refine ⟨h.fd,h.op,⟨lk,?_⟩,h.oth,h.in1⟩
 show (s.files.mapIdx fun i f=>if i∈l then g f else f)[0]?=_
 rw [List.getElem?_mapIdx,hl]
 simp only [Option.map_some,hg,ite_self]
theorem Sy.Held.keep (h:s.Held T) {i:Nat} (hi:i≠0) (f:Fl) (t:ByteArray):(s.eB i f t).Held T:=by
 unfold Sy.eB
 split
 ·exact h
 ·split
  ·exact h.setF hi _
  ·exact h.aJ _ _
theorem Sy.Held.En (h:s.Held T):0<s.files.length:=by
 obtain ⟨lk,hl⟩:=h.fl
 exact (List.getElem?_eq_some_iff.1 hl).1
theorem Sy.Held.EX (h:s.Held T):0<s.opens.length:=(List.getElem?_eq_some_iff.1 h.op).1
theorem Sy.Held.iP (h:s.Held T) (f:Fl):(s.iP f).Held T:=by
 obtain ⟨lk,hl⟩:=h.fl
 exact ⟨h.fd,h.op,⟨lk,by show (s.files++[f])[0]?=_;rw [List.getElem?_append_left h.En];exact hl⟩,h.oth,h.in1⟩
theorem Cj (s:Sy) (o:Opn) {k:Nat} (hk:k<s.opens.length):(s.gT o).fileOf k=s.fileOf k:=by
 unfold Sy.fileOf Sy.gT
 simp only
 rw [List.getElem?_append_left hk]
theorem Sy.Held.gT (h:s.Held T) (o:Opn):(s.gT o).Held T:=by
 refine ⟨h.fd,by show (s.opens++[o])[0]?=_;rw [List.getElem?_append_left h.EX];exact h.op,h.fl,fun n k hn hk=>?_,fun n k hk=>?_⟩
 ·rw [Cj s o (h.in1 n k hk)]
  exact h.oth n k hn hk
 ·have:=h.in1 n k hk
  show k<(s.opens++[o]).length
  rw [List.length_append]
  omega
theorem Sy.Held.fileAt (h:s.Held T) {q:ByteArray} (hq:¬ q.data.toList=[]):(s.fileAt q).1.Held T∧(s.fileAt q).2≠0∧(s.fileAt q).1.opens=s.opens:=by
 unfold Sy.fileAt
 split
 ·rename_i i hi
  refine ⟨h,?_,rfl⟩
  rintro rfl
  have:=List.find?_some hi
  obtain ⟨lk,hl⟩:=h.fl
  have h2:=of_decide_eq_true this
  unfold Sy.pathOf at h2
  rw [hl] at h2
  exact hq h2.symm
 ·exact ⟨h.iP _,by have:=h.En;omega,rfl⟩
theorem Sy.Held.opened (h:s.Held T) {q:ByteArray} (hq:¬ q.data.toList=[]) (use:Int) {n:Nat} (hn:n≠24):(s.opened q use n).Held T:=by
 obtain ⟨h1,h2,h3⟩:=h.fileAt hq
 unfold Sy.opened
 refine (h1.gT _).dS hn _ fun j hj=>?_
 obtain rfl:(s.fileAt q).1.opens.length=j:=Option.some.inj hj
 refine ⟨by have:=h1.EX;omega,?_,?_⟩
 ·unfold Sy.fileOf Sy.gT
  simp only
  rw [List.getElem?_append_right (Nat.le_refl _),Nat.sub_self]
  exact h2
 ·show _<((s.fileAt q).1.opens++[_]).length
  rw [List.length_append]
  exact Nat.lt_succ_self _
theorem Sy.Held.release (h:s.Held T) {q:ByteArray} (hq:¬ q.data.toList=[]):(s.release q).Held T:=by
 refine h.upd _ _ fun lk=>?_
 unfold Sy.relF
 rw [if_neg (fun e=>hq e.symm)]
theorem Sy.Held.carry (h:s.Held T) {a b:ByteArray} (ha:¬ a.data.toList=[]):(s.carry a b).Held T:=by
 refine h.upd _ _ fun lk=>?_
 unfold carF
 rw [if_neg]
 rintro (e | e)
 ·exact ha e.symm
 ·obtain ⟨r,hr⟩:=(aS _ _ ha).1 e
  have:=congrArg List.length hr
  simp at this
theorem lU (s:Sy) (o:Nat):(s.aV o).toNat<8:=by
 unfold Sy.aV
 split
 ·rename_i k hk
  have:=List.mem_of_find?_eq_some hk
  simp at this
  simpa using this
 ·decide
theorem Sy.Held.on (h:s.Held T) {o k:Nat} (ho:o≠3) (hk:k<8) {j:Nat} {op:Opn} {f:Fl} (h1:s.fds (o*8+k)=some j) (h2:s.opens[j]?=some op) (ck cn cm:Int) (cx:ByteArray) (ca:Bool):(s.onR o k ck cn cm cx ca j op f).2.1.Held T:=by
 obtain ⟨hj,hf⟩:=h.oth _ _ (by omega) h1
 have hf:op.file≠0:=by
  unfold Sy.fileOf at hf
  rw [h2] at hf
  exact hf
 unfold Sy.onR
 split
 ·exact (h.dS (by omega) none (fun _ e=>by cases e)).setF hf _
 split
 ·refine h.dS (by have:=lU s o;omega) _ fun i hi=>?_
  obtain rfl:=Option.some.inj hi
  refine ⟨hj,?_,(List.getElem?_eq_some_iff.1 h2).1⟩
  unfold Sy.fileOf
  rw [h2]
  exact hf
 split
 ·exact h.setO hj h2 rfl
 split
 ·exact h.setF hf _
 split
 ·exact h.setF hf _
 split
 ·exact h.setO hj h2 rfl
 split
 ·refine (h.keep hf _ _).setO hj (o:=op) ?_ rfl
  show (s.eB _ _ _).opens[j]?=_
  unfold Sy.eB
  split
  ·exact h2
  ·split <;> exact h2
 ·exact h.keep hf _ _
theorem Sy.Held.step (h:s.Held T) (c:Cl) (hc:c.owner≠3) (h0:(s.eY c).1=0):(s.eY c).2.1.Held T:=by
 unfold Sy.eY at h0 ⊢
 split
 ·exact h
 rename_i g1
 rw [if_neg g1] at h0
 split
 ·exact h
 rename_i g2
 rw [if_neg g2] at h0
 have ho:c.owner.toNat≠3:=by omega
 split
 ·rename_i g
  rw [if_pos g] at h0
  have h0:s.gV c.owner.toNat c.n c.path=0:=h0
  show (s.jw c.owner.toNat c.n c.path).Held T
  unfold Sy.jw
  refine (h.aJ _ _).opened ?_ _ (by have:=lU s c.owner.toNat;omega)
  rw [show (baL (s.opL c.n c.path).2).data.toList=(s.opL c.n c.path).2 by simp [baL]]
  intro e
  unfold Sy.gV at h0
  split at h0
  ·cases h0
  split at h0
  ·cases h0
  split at h0
  ·rename_i g3;exact g3 h0
  rw [e] at h0
  unfold Sy.gB at h0
  rw [bU] at h0
  split at h0
  ·cases h0
  split at h0
  ·cases h0
  split at h0
  ·cases h0
  ·rename_i g4;exact g4 ⟨rfl,rfl⟩
 rename_i g
 rw [if_neg g] at h0
 split
 ·exact h.aJ _ _
 rename_i g
 rw [if_neg g] at h0
 split
 ·exact h.aJ _ _
 rename_i g
 rw [if_neg g] at h0
 split
 ·rename_i g
  rw [if_pos g] at h0
  have h0:s.jm c.kind c.path=0:=h0
  show (s.rmDo c.path).Held T
  unfold Sy.rmDo
  refine (h.release ?_).aJ _ _
  rw [show (baL (s.rmQ c.path)).data.toList=s.rmQ c.path by simp [baL]]
  intro e
  unfold Sy.jm at h0
  split at h0
  ·rename_i g3;exact g3 h0
  split at h0
  ·cases h0
  split at h0
  ·cases h0
  split at h0
  ·cases h0
  ·first
    | cases h0
    | (rw [if_pos e] at h0;cases h0)
 rename_i g
 rw [if_neg g] at h0
 split
 ·rename_i g
  rw [if_pos g] at h0
  have h0:s.jP c.path c.to=0:=h0
  show (s.lC c.path c.to).Held T
  have hn:¬ (s.rmQ c.path=[]∨s.rmQ c.to=[]):=by
   intro e
   unfold Sy.jP at h0
   split at h0
   ·rename_i g3;exact g3 h0
   split at h0
   ·rename_i g3;exact g3 h0
   ·first
     | cases h0
     | (rw [if_pos e] at h0;cases h0)
  have e1:¬ (baL (s.rmQ c.path)).data.toList=[]:=by
   rw [show (baL (s.rmQ c.path)).data.toList=s.rmQ c.path by simp [baL]]
   exact fun e=>hn (.inl e)
  have e2:¬ (baL (s.rmQ c.to)).data.toList=[]:=by
   rw [show (baL (s.rmQ c.to)).data.toList=s.rmQ c.to by simp [baL]]
   exact fun e=>hn (.inr e)
  unfold Sy.lC
  refine Sy.Held.aJ ?_ _ _
  unfold Sy.renamed
  split
  ·exact h.carry e1
  ·exact (h.release e2).carry e1
 split
 ·exact h
 split
 ·exact h
 ·unfold Sy.numR
  split
  ·exact h
  ·rename_i g4
   split
   ·exact h
   ·rename_i j hj
    split
    ·exact h
    ·rename_i op hop
     split
     ·exact h
     ·exact h.on ho (by omega) hj hop _ _ _ _ _
theorem Sy.Held.answer (h:s.Held T) (c:Cl) (hc:c.owner≠3):(s.answer c).1.Held T:=by
 unfold Sy.answer
 split
 ·rename_i h0
  exact h.step c hc h0
 ·exact h
theorem yU:∀ (l:List Cl) {s:Sy} {T:ByteArray},s.Held T→(∀ c∈l,c.owner≠3)→(s.run l).1.Held T
 | [],s,T,h,_=>h
 | c::r,s,T,h,hc=>by
  rw [Sy.run]
  exact yU r (h.answer c (hc c (by simp))) (fun x hx=>hc x (by simp [hx]))
theorem Sy.Held.read (h:s.Held T) (hT:T.size≤100):∃ a,(s.answer ⟨3,3,0,100,0,⟨#[]⟩,⟨#[]⟩,⟨#[]⟩,false⟩).2=a∧a.text=T:=by
 obtain ⟨lk,hl⟩:=h.fl
 have e:s.eY ⟨3,3,0,100,0,⟨#[]⟩,⟨#[]⟩,⟨#[]⟩,false⟩=s.numR 3 3 0 100 0 ⟨#[]⟩ false:=rfl
 have e2:s.numR 3 3 0 100 0 ⟨#[]⟩ false=s.onR 3 0 3 100 0 ⟨#[]⟩ false 0 ⟨0,1,0⟩ ⟨⟨#[]⟩,T,lk⟩:=by
  unfold Sy.numR
  rw [if_neg (by decide)]
  show (match s.fds 24 with | none=>_ | some j=>_)=_
  rw [h.fd]
  simp only [h.op,hl]
  rfl
 have e3:s.textOf ⟨⟨#[]⟩,T,lk⟩=T:=rfl
 have e4:(s.onR 3 0 3 100 0 ⟨#[]⟩ false 0 ⟨0,1,0⟩ ⟨⟨#[]⟩,T,lk⟩)=(0,s.setO 0 { (⟨0,1,0⟩:Opn) with pos:=0+((gI T 0 100).size:Int) },ans (gI T 0 100).size (gI T 0 100)):=by
  unfold Sy.onR
  rw [if_neg (by decide),if_neg (by decide),if_neg (by decide),if_neg (by decide),if_neg (by decide),if_pos rfl,e3]
  rfl
 refine ⟨_,rfl,?_⟩
 unfold Sy.answer
 rw [e,e2,e4,if_pos rfl]
 exact Fu T hT
end PM
namespace PM
theorem AZ (t:ByteArray):baL t.data.toList=t:=dz (by simp [baL])
theorem rQ {s:Sy} {e:Ent} (he:e∈s.seen) (hk:e.kind=1) {p:ByteArray} (hp:p.data.toList=e.p) {o:Nat} (ho:o<4) (hf:s.aV o=0):s.answer ⟨1,o,0,1,0,p,⟨#[]⟩,⟨#[]⟩,false⟩=(s.opened p 1 (o*8),ans 0 ⟨#[]⟩):=by
 have hr:Right false s.seen:=aK s.all
 have hl:s.opL 1 p=(0,e.p):=by
  unfold Sy.opL
  rw [hp]
  exact Bu hr he (fun h=>by rw [hk] at h;cases h)
 have hg:getL s.seen e.p=some e:=dU hr.sorted he (hr.ne he)
 have ha:s.asIs e.p 1:=by
  unfold Sy.asIs
  rw [hg]
  exact ⟨rfl,.inl (by decide)⟩
 have hE:s.gV o 1 p=0:=by
  unfold Sy.gV
  rw [if_neg (by decide),hf,if_neg (by decide),hl,if_neg (by simp)]
  unfold Sy.gB
  rw [if_neg (by rw [hg];simp),if_neg (by rintro ⟨_,h⟩;exact absurd h (by decide)),if_neg (by rw [hg];rintro ⟨_,h⟩;have h:e.kind=2:=h;rw [hk] at h;cases h),if_pos ha]
 have hT:s.jw o 1 p=s.opened p 1 (o*8):=by
  unfold Sy.jw
  rw [hl,hf]
  unfold Sy.gX
  rw [if_pos ha,← hp,AZ]
  rfl
 have hs:s.eY ⟨1,o,0,1,0,p,⟨#[]⟩,⟨#[]⟩,false⟩=(s.gV o 1 p,s.jw o 1 p,ans (s.aV o) ⟨#[]⟩):=by
  unfold Sy.eY
  rw [if_neg (by simp),if_neg (by simp;omega),if_pos rfl]
  rfl
 unfold Sy.answer
 rw [hs,hE,if_pos rfl,hT,hf]
def jH:Cl:=⟨3,3,0,100,0,⟨#[]⟩,⟨#[]⟩,⟨#[]⟩,false⟩
def jG (p:ByteArray):Cl:=⟨1,3,0,1,0,p,⟨#[]⟩,⟨#[]⟩,false⟩
def gU (p:ByteArray):Cl:=⟨8,0,0,0,0,p,⟨#[]⟩,⟨#[]⟩,false⟩
theorem Aj {up:List Ent} {lows:List (List Ent)} {e:Ent} (he:e∈aB (up::lows)) {p:ByteArray} (hp:p.data.toList=e.p):∀ s1,s1=(⟨up,lows,[⟨p,⟨#[]⟩,[]⟩],[⟨0,1,0⟩],fun x=>if x=24 then some 0 else none⟩:Sy)→¬ (s1.answer (gU p)).2.err=0∨(s1.answer (gU p)).1.Held e.text:=by
 intro s1 hs1
 by_cases h0:s1.jm 8 p=0
 ·right
  have hr:Right false (aB (up::lows)):=aK _
  have hse:s1.seen=aB (up::lows):=by rw [hs1];rfl
  have hne:¬ p.data.toList=[]:=by rw [hp];exact hr.ne he
  have hst:s1.eY (gU p)=(s1.jm 8 p,s1.rmDo p,iA):=rfl
  have hq:s1.rmQ p=p.data.toList:=by
   unfold Sy.rmQ
   rw [hse,hp,Bu hr he (fun _=>rfl)]
  have hrc:s1.reach=[0]:=by rw [hs1];rfl
  have hfl:s1.files=[⟨p,⟨#[]⟩,[]⟩]:=by rw [hs1]
  have ht:s1.textOf ⟨p,⟨#[]⟩,[]⟩=e.text:=by
   unfold Sy.textOf
   rw [if_neg hne,hse]
   show ((getL (aB (up::lows)) p.data.toList).getD zeroE).text=_
   rw [hp,dU hr.sorted he (hr.ne he)]
   rfl
  unfold Sy.answer
  rw [hst,h0,if_pos rfl]
  show (s1.rmDo p).Held e.text
  unfold Sy.rmDo
  rw [hq,AZ]
  refine Sy.Held.aJ ⟨?_,?_,⟨[],?_⟩,fun n j hn hj=>?_,fun n j hj=>?_⟩ _ _
  ·rw [hs1];rfl
  ·rw [hs1];rfl
  ·show (s1.files.mapIdx fun i f=>if i∈s1.reach then s1.relF p f else f)[0]?=_
   rw [hrc,hfl]
   show some (s1.relF p ⟨p,⟨#[]⟩,[]⟩)=_
   unfold Sy.relF
   rw [if_pos rfl,ht]
  ·rw [hs1] at hj
   have hj:(if n=24 then some 0 else none)=some j:=hj
   rw [if_neg hn] at hj
   cases hj
  ·rw [hs1] at hj ⊢
   have hj:(if n=24 then some 0 else none)=some j:=hj
   split at hj
   ·cases hj;exact Nat.zero_lt_one
   ·cases hj
 ·left
  have hst:s1.eY (gU p)=(s1.jm 8 p,s1.rmDo p,iA):=rfl
  unfold Sy.answer
  rw [hst,if_neg h0]
  exact h0
section
variable {up:List Ent} {lows:List (List Ent)} {e:Ent} (he:e∈aB (up::lows)) (hk:e.kind=1) {p:ByteArray} (hp:p.data.toList=e.p)
include he hk hp
theorem Ak:(aO up lows).answer (jG p)=(⟨up,lows,[⟨p,⟨#[]⟩,[]⟩],[⟨0,1,0⟩],fun x=>if x=24 then some 0 else none⟩,ans 0 ⟨#[]⟩):=by
 have:=rQ (s:=aO up lows) (o:=3) he hk hp (by decide) rfl
 exact this
theorem Db (l:List Cl) (hl:∀ c∈l,c.owner≠3):∃ a0 a1 r a,((aO up lows).run ([jG p,gU p]++l++[jH])).2=a0::a1::(r++[a])∧r.length=l.length∧a0.err=0∧(¬ a1.err=0∨a.text=e.text):=by
 have hr:Right false (aB (up::lows)):=aK _
 rw [zC]
 simp only [List.cons_append,List.nil_append,Sy.run]
 rw [Ak he hk hp]
 simp only
 obtain ⟨s1,hs1⟩:∃ s1,s1=(⟨up,lows,[⟨p,⟨#[]⟩,[]⟩],[⟨0,1,0⟩],fun x=>if x=24 then some 0 else none⟩:Sy):=⟨_,rfl⟩
 rw [← hs1]
 refine ⟨_,_,((s1.answer (gU p)).1.run l).2,_,rfl,wK _ _,rfl,?_⟩
 rcases Aj he hp s1 hs1 with h | h
 ·exact .inl h
 ·right
  obtain ⟨a,h1,h2⟩:=(yU l h hl).read (by have:=yR hr e.p;rw [dU hr.sorted he (hr.ne he)] at this;exact this)
  rw [← h2,← h1]
  rfl
end
end PM
end Go.Proofs.YthfeoiffoeagkaaGreatDoor
