/-
  Plain mathematics of a union as lists of entries.
-/
import Derived.Test.YthfeoiffoeagkaaGreatDoorZA8
namespace Go.Proofs.YthfeoiffoeagkaaGreatDoor.PM
set_option linter.unusedVariables false
theorem Good.ne {b:Bool} {t:List Ent} (h:Good b t) {e:Ent} (he:e∈t):e.p≠[]:=bX (bq (h.each e he))
theorem Right.good {b:Bool} {t:List Ent} (h:Right b t):Good b t:=⟨h.each,h.sorted,h.dir⟩
theorem Good.right {b:Bool} {t:List Ent} (h:Good b t) (hl:t.length≤80):Right b t:=⟨hl,h.each,h.sorted,h.dir⟩
theorem iG {a b:List UInt8} (h:under a b=true) (hb:b≠[]):b.length<a.length:=by
 obtain ⟨r,rfl⟩:=(aS _ _ hb).1 h
 simp
theorem Hu {a b:List UInt8} (hb:b≠[]) (h:under a b=true):a≠b:=by
 rintro rfl
 have:=iG h hb;omega
theorem Good.below {b:Bool} {t:List Ent} (h:Good b t) {p:List UInt8} (hp:p≠[]):∀ (n:Nat) {e:Ent},e.p.length≤n→e∈t→under e.p p=true→∃ d∈t,d.p=p∧d.kind=2:=by
 intro n
 induction n with
 | zero=>intro e hn he _;exact absurd (List.length_eq_zero_iff.1 (by omega)) (h.ne he)
 | succ n ih =>
  intro e hn he hu
  have hd:∃ d∈t,d.p=aA e.p∧d.kind=2:=by
   rcases h.dir e he with hd | hd
   ·rcases oG hp hu with g | g
    ·exact absurd (g.symm.trans hd) hp
    ·obtain ⟨r,e'⟩:=(aS _ _ hp).1 g
     rw [hd] at e';simp at e'
   ·exact hd
  obtain ⟨d,hdt,hdp,hdk⟩:=hd
  rcases oG hp hu with g | g
  ·exact ⟨d,hdt,hdp.trans g,hdk⟩
  ·exact ih (by rw [hdp];have:=cO (h.ne he);omega) hdt (by rw [hdp];exact g)
theorem Iq {a b:List Ent} (ha:Sorted a) (hb:Sorted b) (na:∀ e∈a,e.p≠[]) (nb:∀ e∈b,e.p≠[]) (h:∀ q,q≠[]→getL a q=getL b q):a=b:=by
 refine jW ha hb fun x=>⟨fun hx=>?_,fun hx=>?_⟩
 ·have h1:=dU ha hx (na x hx)
  rw [h _ (na x hx)] at h1
  exact (aM (na x hx) h1).1
 ·have h1:=dU hb hx (nb x hx)
  rw [← h _ (nb x hx)] at h1
  exact (aM (nb x hx) h1).1
theorem fM {t:List Ent} (hs:Sorted t) {y:Ent} {q:List UInt8} (hy:y∈t) (hp:y.p=q) (hq:q≠[]):getL t q=some y:=by
 subst hp;exact dU hs hy hq
theorem get_put {t:List Ent} {e:Ent} (hs:Sorted t) {q:List UInt8} (hq:q≠[]):getL (putL t e) q=if q=e.p then some e else getL t q:=by
 by_cases h:q=e.p
 ·rw [if_pos h];exact fM (eF hs e) (dZ.2 (.inl rfl)) h.symm hq
 ·rw [if_neg h]
  cases hg:getL t q with
  | none =>
   refine bn hq fun x hx hp=>?_
   rcases dZ.1 hx with rfl | ⟨hx,_⟩
   ·exact h hp.symm
   ·exact (dQ hg).2 x hx hp
  | some y =>
   obtain ⟨hy,hp⟩:=aM hq hg
   exact fM (eF hs e) (dZ.2 (.inr ⟨hy,by rw [hp];exact h⟩)) hp hq
theorem get_filter {t:List Ent} {f:Ent→Bool} (hs:Sorted t) {q:List UInt8} (hq:q≠[]) (hf:∀ y∈t,y.p=q→f y=true):getL (t.filter f) q=getL t q:=by
 cases hg:getL t q with
 | none=>exact bn hq fun x hx=>(dQ hg).2 x (List.mem_filter.1 hx).1
 | some y =>
  obtain ⟨hy,hp⟩:=aM hq hg
  exact fM (List.Pairwise.filter _ hs) (List.mem_filter.2 ⟨hy,hf y hy hp⟩) hp hq
/-! what is seen at a path -/
def seeL (B own:List Ent) (q:List UInt8):Option Ent :=
 match getL own q with
 | some y=>if y.kind=4 then none else some (fF y)
 | none=>if bI own q then none else getL B q
theorem Ka {l t:List Ent} (hl:Sorted l) (ht:Sorted t) {q:List UInt8} (hq:q≠[]):getL (fE l t) q=seeL t l q:=by
 unfold seeL
 cases hg:getL l q with
 | some y =>
  obtain ⟨hy,hp⟩:=aM hq hg
  by_cases hk:y.kind=4
  ·simp only [if_pos hk]
   refine bn hq fun x hx he=>?_
   rcases (eU hl ht).1 hx with hx | hx
   ·obtain ⟨z,hz,hkz,rfl⟩:=gu.1 hx
    have:=lD hl hz hy (he.trans hp.symm)
    subst this
    exact hkz hk
   ·exact (dQ (fA.1 hx).2.1).2 y hy (hp.trans he.symm)
  ·simp only [if_neg hk]
   exact fM (jC hl ht) ((eU hl ht).2 (.inl (gu.2 ⟨y,hy,hk,rfl⟩))) hp hq
 | none =>
  have hn:=(dQ hg).2
  cases hh:bI l q with
  | true =>
   simp only [if_true]
   refine bn hq fun x hx he=>?_
   rcases (eU hl ht).1 hx with hx | hx
   ·obtain ⟨z,hz,_,rfl⟩:=gu.1 hx
    exact hn z hz he
   ·have:=(fA.1 hx).2.2
    rw [he,hh] at this;cases this
  | false =>
   simp only [Bool.false_eq_true,if_false]
   cases hgt:getL t q with
   | none =>
    refine bn hq fun x hx he=>?_
    rcases (eU hl ht).1 hx with hx | hx
    ·obtain ⟨z,hz,_,rfl⟩:=gu.1 hx
     exact hn z hz he
    ·exact (dQ hgt).2 x (fA.1 hx).1 he
   | some z =>
    obtain ⟨hz,hp⟩:=aM hq hgt
    exact fM (jC hl ht) ((eU hl ht).2 (.inr (fA.2 ⟨hz,by rw [hp];exact hg,by rw [hp];exact hh⟩))) hp hq
theorem rR {l t:List Ent} (hl:Good true l) (ht:Right false t):Good false (fE l t):=by
 refine ⟨fun e he=>?_,jC hl.sorted ht.sorted,fun e he=>?_⟩
 ·rcases (eU hl.sorted ht.sorted).1 he with he | he
  ·obtain ⟨y,hy,hk,rfl⟩:=gu.1 he
   exact sw (hl.each y hy) hk
  ·exact ht.each e (fA.1 he).1
 ·have own_dir:∀ d∈l,d.kind=2→∃ x∈fE l t,x.p=d.p∧x.kind=2:=fun d hd hk =>
   ⟨fF d,(eU hl.sorted ht.sorted).2 (.inl (gu.2 ⟨d,hd,by omega,rfl⟩)),rfl,hk⟩
  rcases (eU hl.sorted ht.sorted).1 he with he | he
  ·obtain ⟨y,hy,hk,rfl⟩:=gu.1 he
   rcases hl.dir y hy with g | ⟨d,hd,hp,hk2⟩
   ·exact .inl g
   ·obtain ⟨x,h1,h2,h3⟩:=own_dir d hd hk2
    exact .inr ⟨x,h1,h2.trans hp,h3⟩
  ·obtain ⟨hm,hg,hh⟩:=fA.1 he
   rcases ht.dir e hm with g | ⟨d,hd,hp,hk2⟩
   ·exact .inl g
   ·have hdn:d.p≠[]:=ht.ne hd
    have hu:under e.p d.p=true:=by rw [hp];exact fJ (ht.ne hm) (by rw [← hp];exact hdn)
    have hno:∀ y∈l,bD e.p y=false:=fun y hy=>by
     cases hc:bD e.p y with
     | false=>rfl
     | true=>rw [show bI l e.p=true from List.any_eq_true.2 ⟨y,hy,hc⟩] at hh;cases hh
    cases hgl:getL l d.p with
    | some y =>
     obtain ⟨hy,hyp⟩:=aM hdn hgl
     have hky:y.kind=2:=by
      have:=hno y hy
      unfold bD at this
      rw [hyp,hu] at this
      by_cases hk:y.kind=2
      ·exact hk
      ·simp [hk] at this
     obtain ⟨x,h1,h2,h3⟩:=own_dir y hy hky
     exact .inr ⟨x,h1,h2.trans (hyp.trans hp),h3⟩
    | none =>
     refine .inr ⟨d,(eU hl.sorted ht.sorted).2 (.inr (fA.2 ⟨hd,hgl,?_⟩)),hp,hk2⟩
     cases hc:bI l d.p with
     | false=>rfl
     | true =>
      obtain ⟨y,hy,hhy⟩:=List.any_eq_true.1 hc
      have:=hno y hy
      have hyd:¬ y.p=d.p:=(dQ hgl).2 y hy
      unfold bD at this hhy
      simp [hyd] at hhy
      rw [jQ hdn (hl.ne hy) hu hhy.1] at this
      rcases hhy.2 with h | h <;> simp [h] at this
theorem I4 {B own:List Ent} (hO:Good true own) (hB:Right false B) {q:List UInt8} (hq:q≠[]) {x:Ent} (hx:seeL B own q=some x):aA q=[]∨∃ d,seeL B own (aA q)=some d∧d.kind=2:=by
 rw [← Ka hO.sorted hB.sorted hq] at hx
 obtain ⟨hm,hp⟩:=aM hq hx
 have hG:=rR hO hB
 rcases hG.dir x hm with g | ⟨d,hd,hdp,hk⟩
 ·exact .inl (by rw [← hp];exact g)
 ·rw [hp] at hdp
  by_cases h0:aA q=[]
  ·exact .inl h0
  ·refine .inr ⟨d,?_,hk⟩
   rw [← Ka hO.sorted hB.sorted h0]
   exact fM hG.sorted hd hdp h0
theorem FE {B own:List Ent} (hO:Good true own) (hB:Right false B) {p q:List UInt8} (hp:p≠[]) (hu:under q p=true) {x:Ent} (hx:seeL B own q=some x):∃ d,seeL B own p=some d∧d.kind=2:=by
 have hq:q≠[]:=by rintro rfl;have:=iG hu hp;simp at this
 rw [← Ka hO.sorted hB.sorted hq] at hx
 obtain ⟨hm,hxp⟩:=aM hq hx
 have hG:=rR hO hB
 obtain ⟨d,hd,hdp,hk⟩:=hG.below hp x.p.length (Nat.le_refl _) hm (by rw [hxp];exact hu)
 refine ⟨d,?_,hk⟩
 rw [← Ka hO.sorted hB.sorted hp]
 exact fM hG.sorted hd hdp hp
theorem BG {B own:List Ent} (hs:Sorted own) {y:Ent} (hy:y∈own) (hne:y.p≠[]) (hk:¬ y.kind=4):seeL B own y.p=some (fF y):=by
 unfold seeL
 rw [dU hs hy hne]
 simp only [if_neg hk]
/-! an upper layer has an entry -/
def mkE (q:ByteArray) (k:Int):Ent:=⟨q,k,⟨#[]⟩,false⟩
def baL (l:List UInt8):ByteArray:=⟨l.toArray⟩
theorem fU (l:List UInt8) (k:Int):(mkE (baL l) k).p=l:=by simp [mkE,baL,Ent.p]
def eT (t:List Ent) (q:List UInt8):Bool:=match getL t q with | some d=>d.kind == 2 | none=>false
def fixE (own:List Ent) (e:Ent):Ent:=match getL own e.p with | some old=>{ e with opq:=e.kind == 2 && (old.opq || old.kind == 4) } | none=>e
theorem Jh (own:List Ent) (e:Ent):(fixE own e).p=e.p:=by unfold fixE;split <;> rfl
theorem Jg (own:List Ent) (e:Ent):(fixE own e).kind=e.kind:=by unfold fixE;split <;> rfl
theorem Ji (own:List Ent) (e:Ent):(fixE own e).text=e.text:=by unfold fixE;split <;> rfl
def bJ (own:List Ent) (e:Ent):List Ent:=putL own (fixE own e)
def jZ:Nat→List Ent→Ent→List Ent
 | 0,own,e=>bJ own e
 | n+1,own,e=>if eT own (aA e.p) then bJ own e else bJ (jZ n own (mkE (baL (aA e.p)) 2)) e
def aC (own:List Ent) (e:Ent):List Ent:=jZ e.p.length own e
theorem iy (own:List Ent):eT own []=true:=by simp [eT,bU,dirE]
theorem vE:∀ (n m:Nat) (own:List Ent) (e:Ent),e.p.length≤n→e.p.length≤m→jZ n own e=jZ m own e
 | 0,0,_,_,_,_=>rfl
 | 0,m+1,own,e,h,_=>by
  have:e.p=[]:=List.length_eq_zero_iff.1 (by omega)
  have hd:aA e.p=[]:=by rw [this];rfl
  rw [jZ,jZ,hd,iy,if_pos rfl]
 | n+1,0,own,e,_,h=>by
  have:e.p=[]:=List.length_eq_zero_iff.1 (by omega)
  have hd:aA e.p=[]:=by rw [this];rfl
  rw [jZ,jZ,hd,iy,if_pos rfl]
 | n+1,m+1,own,e,h,g=>by
  rw [jZ,jZ]
  by_cases hd:eT own (aA e.p)=true
  ·rw [if_pos hd,if_pos hd]
  ·rw [if_neg hd,if_neg hd]
   have hne:e.p≠[]:=by
    intro h0
    apply hd
    rw [h0]
    exact iy own
   have hl:(mkE (baL (aA e.p)) 2).p.length<e.p.length:=by rw [fU];exact cO hne
   rw [vE n m own _ (by omega) (by omega)]
theorem mM {own:List Ent} {e:Ent} (h:eT own (aA e.p)=true):aC own e=bJ own e:=by
 unfold aC
 cases hn:e.p.length with
 | zero=>rfl
 | succ n=>rw [jZ,if_pos h]
theorem nH {own:List Ent} {e:Ent} (h:¬ eT own (aA e.p)=true):aC own e=bJ (aC own (mkE (baL (aA e.p)) 2)) e:=by
 have hne:e.p≠[]:=by
  intro h0
  apply h
  rw [h0]
  exact iy own
 have hl:=cO hne
 unfold aC
 cases hn:e.p.length with
 | zero=>omega
 | succ n =>
  rw [jZ,if_neg h,vE n (mkE (baL (aA e.p)) 2).p.length own _ (by rw [fU];omega) (Nat.le_refl _)]
theorem xI {own:List Ent} (e:Ent) (hs:Sorted own):(bJ own e).length≤own.length+1:=by
 unfold bJ
 rw [oL hs]
 split <;> omega
theorem nQ {own:List Ent} (e:Ent) (hs:Sorted own):Sorted (bJ own e):=eF hs _
theorem mq:∀ (n:Nat) {own:List Ent} {e:Ent},e.p.length≤n→Sorted own→Sorted (aC own e)∧(aC own e).length≤own.length+e.p.length+1
 | n,own,e,hn,hs=>by
  by_cases h:eT own (aA e.p)=true
  ·rw [mM h]
   exact ⟨nQ e hs,by have:=xI e hs;omega⟩
  ·have hne:e.p≠[]:=by
    intro h0
    apply h
    rw [h0]
    exact iy own
   have hl:=cO hne
   rw [nH h]
   cases n with
   | zero=>exact absurd (List.length_eq_zero_iff.1 (by omega)) hne
   | succ n =>
    obtain ⟨h1,h2⟩:=mq n (own:=own) (e:=mkE (baL (aA e.p)) 2) (by rw [fU];omega) hs
    rw [fU] at h2
    exact ⟨nQ e h1,by have:=xI e h1;omega⟩
structure DK (B own:List Ent) (e:Ent) (own':List Ent):Prop where
 good:Good true own'
 same:∀ q,q≠[]→q≠e.p→(e.kind=2∨under q e.p=false)→seeL B own' q=seeL B own q
 here:seeL B own' e.p=if e.kind=4 then none else some e
 under:¬ e.kind=2→∀ q,under q e.p=true→seeL B own' q=none
 there:∃ y∈own',y.p=e.p∧y.kind=e.kind
 mem:∀ x∈own',x∈own∨x.p=e.p∨PM.under e.p x.p=true
theorem DJ {e:Ent} {b:Bool} (h:aG e true=0) (hb:b=true→e.kind=2):aG { e with opq:=b } true=0:=by
 have hp:({ e with opq:=b }:Ent).p=e.p:=rfl
 unfold aG at h ⊢
 rw [hp]
 simp only at h ⊢
 split at h
 ·omega
 rename_i c1
 rw [if_neg c1]
 split at h
 ·omega
 rename_i c2
 rw [if_neg c2]
 split at h
 ·omega
 rename_i c3
 rw [if_neg c3]
 split at h
 ·omega
 rename_i c4
 rw [if_neg]
 intro c
 apply c4
 cases b with
 | false =>
  simp only [Bool.false_and,Bool.or_false] at c
  rw [c];rfl
 | true =>
  have hk:=hb rfl
  simp [hk] at c ⊢
  exact c
theorem qj {own:List Ent} {q:List UInt8} (hq:q≠[]):eT own q=true↔∃ d,getL own q=some d∧d.kind=2:=by
 unfold eT
 cases getL own q with
 | none=>simp
 | some d=>simp
theorem zJ {B own:List Ent} {e:Ent} (hO:Good true own) (he:aG e true=0) (hop:e.opq=false)
  (hd:eT own (aA e.p)=true) (hk:e.kind=2→∀ y,getL own e.p=some y→y.kind=2∨y.kind=4) (hn:¬ e.kind=2→∀ y∈own,under y.p e.p=false):DK B own e (bJ own e):=by
 have hne:e.p≠[]:=bX (bq he)
 have hs:=hO.sorted
 have hfp:=Jh own e
 have hfk:=Jg own e
 have hfc:fF (fixE own e)=e:=by
  unfold fixE
  split
  ·show Ent.mk e.path e.kind e.text false=e
   rw [← hop]
  ·exact DY hop
 have hfw:aG (fixE own e) true=0:=by
  unfold fixE
  split
  ·exact DJ he (fun h=>by simp at h;exact h.1)
  ·exact he
 have hmem:∀ x,x∈bJ own e↔x=fixE own e∨x∈own∧x.p≠e.p:=fun x=>by unfold bJ;rw [dZ,hfp]
 have hget:∀ q,q≠[]→getL (bJ own e) q=if q=e.p then some (fixE own e) else getL own q:=fun q hq=>by
  unfold bJ;rw [get_put hs hq,hfp]
 have hfar:∀ q,q≠e.p→under q e.p=false→∀ z:Ent,z.p=e.p→bD q z=false:=fun q h1 h2 z hz=>by
  unfold bD
  rw [hz,h2]
  simp [Ne.symm h1]
 have hhid:∀ q,q≠e.p→(e.kind=2∨under q e.p=false)→bI (bJ own e) q=bI own q:=fun q h1 h2=>by
  have key:(∀ y∈own,y.p=e.p→bD q (fixE own e)=bD q y)∧((∀ y∈own,y.p≠e.p)→bD q (fixE own e)=false):=by
   cases hu:under q e.p with
   | false=>exact ⟨fun y hy hp=>by rw [hfar q h1 hu _ hfp,hfar q h1 hu _ hp],fun _=>hfar q h1 hu _ hfp⟩
   | true =>
    have hk2:e.kind=2:=by
     rcases h2 with h | h
     ·exact h
     ·rw [hu] at h;cases h
    refine ⟨fun y hy hp=>?_,fun h=>?_⟩
    ·have hgy:getL own e.p=some y:=fM hs hy hp hne
     unfold bD
     rw [hfp,hfk,hp,hu,hk2]
     have hfo:(fixE own e).opq=(y.opq || y.kind == 4):=by
      unfold fixE;rw [hgy];simp [hk2]
     rw [hfo]
     rcases hk hk2 y hgy with h | h
     ·simp [h]
     ·simp [h]
    ·have hgy:getL own e.p=none:=bn hne h
     have hfo:fixE own e=e:=by unfold fixE;rw [hgy]
     rw [hfo]
     unfold bD
     simp [hk2,hop]
  rw [Bool.eq_iff_iff]
  unfold bI
  simp only [List.any_eq_true]
  constructor
  ·rintro ⟨x,hx,hh⟩
   rcases (hmem x).1 hx with rfl | ⟨hx,_⟩
   ·by_cases h:∃ y∈own,y.p=e.p
    ·obtain ⟨y,hy,hp⟩:=h
     exact ⟨y,hy,by rw [← key.1 y hy hp];exact hh⟩
    ·rw [key.2 (fun y hy hp=>h ⟨y,hy,hp⟩)] at hh;cases hh
   ·exact ⟨x,hx,hh⟩
  ·rintro ⟨x,hx,hh⟩
   by_cases hp:x.p=e.p
   ·exact ⟨_,(hmem _).2 (.inl rfl),by rw [key.1 x hx hp];exact hh⟩
   ·exact ⟨x,(hmem _).2 (.inr ⟨hx,hp⟩),hh⟩
 refine ⟨⟨fun x hx=>?_,nQ e hs,fun x hx=>?_⟩,fun q hq h1 h2=>?_,?_,fun h2 q hu=>?_,⟨fixE own e,(hmem _).2 (.inl rfl),hfp,hfk⟩,fun x hx=>?_⟩
 ·rcases (hmem x).1 hx with rfl | ⟨hx,_⟩
  ·exact hfw
  ·exact hO.each x hx
 ·have keep:∀ d∈own,d.kind=2→(d.p=e.p→e.kind=2)→∃ z∈bJ own e,z.p=d.p∧z.kind=2:=fun d hd hdk hde=>by
   by_cases hp:d.p=e.p
   ·exact ⟨_,(hmem _).2 (.inl rfl),by rw [hfp,hp],by rw [hfk];exact hde hp⟩
   ·exact ⟨d,(hmem _).2 (.inr ⟨hd,hp⟩),rfl,hdk⟩
  rcases (hmem x).1 hx with rfl | ⟨hx,hxe⟩
  ·rw [hfp]
   by_cases h0:aA e.p=[]
   ·exact .inl h0
   ·obtain ⟨d,hg,hdk⟩:=(qj h0).1 hd
    obtain ⟨hdm,hdp⟩:=aM h0 hg
    obtain ⟨z,hz,h1,h2⟩:=keep d hdm hdk (fun h=>by have:=cO hne;rw [← hdp,h] at this;omega)
    exact .inr ⟨z,hz,h1.trans hdp,h2⟩
  ·rcases hO.dir x hx with g | ⟨d,hdm,hdp,hdk⟩
   ·exact .inl g
   ·obtain ⟨z,hz,h1,h2⟩:=keep d hdm hdk (fun h=>by
     rcases Decidable.em (e.kind=2) with h2 | h2
     ·exact h2
     ·have:=hn h2 x hx
      rw [← h,hdp,fJ (hO.ne hx) (by rw [← hdp,h];exact hne)] at this
      cases this)
    exact .inr ⟨z,hz,h1.trans hdp,h2⟩
 ·unfold seeL
  rw [hget q hq,if_neg h1,hhid q h1 h2]
 ·unfold seeL
  rw [hget _ hne,if_pos rfl]
  simp only [hfk,hfc]
 ·have hq:q≠[]:=by rintro rfl;have:=iG hu hne;simp at this
  have hqe:q≠e.p:=Hu hne hu
  unfold seeL
  rw [hget q hq,if_neg hqe]
  have hg:getL own q=none:=bn hq fun y hy hp=>by
   have:=hn h2 y hy
   rw [hp,hu] at this;cases this
  have hh:bI (bJ own e) q=true:=List.any_eq_true.2 ⟨fixE own e,(hmem _).2 (.inl rfl),by unfold bD;rw [hfp,hfk,hu];simp [h2]⟩
  rw [hg,hh]
  rfl
 ·rcases (hmem x).1 hx with rfl | ⟨hx,_⟩
  ·exact .inr (.inl hfp)
  ·exact .inl hx
theorem Ec {l:List UInt8} (h:clean l=true):aA l=[]∨clean (aA l)=true:=(qR l h).2.2.1
theorem DI {q:List UInt8} (h:clean q=true):aG (mkE (baL q) 2) true=0:=by
 unfold aG
 rw [fU,h]
 simp [mkE,ByteArray.size]
theorem zW {q:List UInt8} (h:clean q=true):aG (mkE (baL q) 4) true=0:=by
 unfold aG
 rw [fU,h]
 simp [mkE,ByteArray.size]
theorem Ed {d:Ent} (h:aG d false=0) (hk:d.kind=2):d=mkE (baL d.p) 2:=by
 have ho:=(ql h).2
 have ht:d.text.size=0:=by
  unfold aG at h
  split at h
  ·omega
  split at h
  ·omega
  split at h
  ·omega
  split at h
  ·omega
  rename_i c
  by_cases h0:d.text.size=0
  ·exact h0
  ·exact absurd (by simp [hk,h0]) c
 obtain ⟨p,k,t,o⟩:=d
 simp only at hk ho ht
 subst hk ho
 have h0:t.data.toList=[]:=List.length_eq_zero_iff.1 (by rw [Array.length_toList];exact ht)
 have h1:t=⟨#[]⟩:=dz h0
 subst h1
 show Ent.mk p 2 _ false=Ent.mk (baL p.data.toList) 2 _ false
 congr 1
theorem wG {B:List Ent} (hB:Right false B):∀ (n:Nat) {own:List Ent} {e:Ent},e.p.length≤n→Good true own→aG e true=0→e.opq=false →
  (aA e.p=[]∨∃ d,seeL B own (aA e.p)=some d∧d.kind=2)→(e.kind=2→∀ y,getL own e.p=some y→y.kind=2∨y.kind=4)→(¬ e.kind=2→∀ y∈own,under y.p e.p=false)→DK B own e (aC own e)
 | n,own,e,hl,hO,he,hop,hd,hk,hn=>by
  have hne:e.p≠[]:=bX (bq he)
  by_cases h:eT own (aA e.p)=true
  ·rw [mM h]
   exact zJ hO he hop h hk hn
  ·have h0:aA e.p≠[]:=fun h0=>h (by rw [h0];exact iy own)
   have hsh:=cO hne
   have hu:under e.p (aA e.p)=true:=fJ hne h0
   have hcl:clean (aA e.p)=true:=by
    rcases Ec (bq he) with g | g
    ·exact absurd g h0
    ·exact g
   obtain ⟨d,hsd,hdk⟩:∃ d,seeL B own (aA e.p)=some d∧d.kind=2:=by
    rcases hd with g | g
    ·exact absurd g h0
    ·exact g
   have hgn:getL own (aA e.p)=none:=by
    cases hg:getL own (aA e.p) with
    | none=>rfl
    | some y =>
     exfalso
     unfold seeL at hsd
     rw [hg] at hsd
     simp only at hsd
     split at hsd
     ·cases hsd
     ·cases hsd
      exact h ((qj h0).2 ⟨y,hg,hdk⟩)
   have hdB:d∈B∧d.p=aA e.p:=by
    unfold seeL at hsd
    rw [hgn] at hsd
    simp only at hsd
    split at hsd
    ·cases hsd
    ·exact aM h0 hsd
   have hde:d=mkE (baL (aA e.p)) 2:=by
    have:=Ed (hB.each d hdB.1) hdk
    rw [hdB.2] at this;exact this
   cases n with
   | zero=>exact absurd (List.length_eq_zero_iff.1 (by omega)) hne
   | succ n =>
    have ih:=wG hB n (own:=own) (e:=mkE (baL (aA e.p)) 2) (by rw [fU];omega) hO (DI hcl) rfl
     (by rw [fU];exact I4 hO hB h0 hsd) (fun _ y hy=>by rw [fU,hgn] at hy;cases hy) (fun h=>absurd rfl h)
    rw [nH h]
    generalize aC own (mkE (baL (aA e.p)) 2)=o at ih
    have hsee:∀ q,q≠[]→seeL B o q=seeL B own q:=fun q hq=>by
     by_cases hqd:q=aA e.p
     ·have:=ih.here
      rw [fU] at this
      rw [hqd,this,hsd,if_neg (by show ¬ (2:Int)=4;decide),hde]
     ·exact ih.same q hq (by rw [fU];exact hqd) (.inl rfl)
    have hno:∀ y∈o,y.p≠e.p:=fun y hy hp=>by
     rcases ih.mem y hy with g | g | g
     ·obtain ⟨z,hz,hzp,_⟩:=hO.below h0 y.p.length (Nat.le_refl _) g (by rw [hp];exact hu)
      exact (dQ hgn).2 z hz hzp
     ·rw [fU,hp] at g
      rw [← g] at hsh;omega
     ·rw [fU,hp] at g
      have:=iG g hne;omega
    have hdo:eT o (aA e.p)=true:=by
     obtain ⟨y,hy,hyp,hyk⟩:=ih.there
     rw [fU] at hyp
     exact (qj h0).2 ⟨y,fM ih.good.sorted hy hyp h0,hyk⟩
    have st:=zJ (B:=B) (own:=o) ih.good he hop hdo (fun _ y hy=>absurd (aM hne hy).2 (hno y (aM hne hy).1)) (fun h2 y hy=>by
     cases hc:under y.p e.p with
     | false=>rfl
     | true =>
      exfalso
      rcases ih.mem y hy with g | g | g
      ·have:=hn h2 y g
       rw [hc] at this;cases this
      ·rw [fU] at g
       rw [g] at hc
       have:=iG hc hne;omega
      ·rw [fU] at g
       have h1:=iG hc hne
       have h2:=iG g (by intro h;rw [h] at h1;simp at h1)
       omega)
    refine ⟨st.good,fun q hq h1 h2=>(st.same q hq h1 h2).trans (hsee q hq),st.here,st.under,st.there,fun x hx=>?_⟩
    rcases st.mem x hx with g | g | g
    ·rcases ih.mem x g with g | g | g
     ·exact .inl g
     ·rw [fU] at g
      exact .inr (.inr (by rw [g];exact hu))
     ·rw [fU] at g
      have hxn:x.p≠[]:=by
       intro h
       exact ih.good.ne (e:=x) (by assumption) h
      exact .inr (.inr (jQ h0 hxn hu g))
    ·exact .inr (.inl g)
    ·exact .inr (.inr g)
theorem wT {B own:List Ent} {e:Ent} (hB:Right false B) (hO:Good true own) (he:aG e false=0)
  (hd:aA e.p=[]∨∃ d,seeL B own (aA e.p)=some d∧d.kind=2) (hk:∀ y,seeL B own e.p=some y→(y.kind=2↔e.kind=2)) :
  Good true (aC own e)∧(∀ q,q≠[]→seeL B (aC own e) q=if q=e.p then some e else seeL B own q):=by
 have hkl:=ql he
 have hne:e.p≠[]:=bX (bq he)
 have hno:¬ e.kind=2→∀ q,under q e.p=true→seeL B own q=none:=fun h2 q hu=>by
  cases hc:seeL B own q with
  | none=>rfl
  | some x =>
   obtain ⟨d,hd,hdk⟩:=FE hO hB hne hu hc
   exact absurd ((hk d hd).1 hdk) h2
 have H:=wG hB e.p.length (Nat.le_refl _) hO (sD he) hkl.2 hd (fun h2 y hy=>by
   have hy':=aM hne hy
   by_cases h4:y.kind=4
   ·exact .inr h4
   ·left
    have:=BG (B:=B) hO.sorted hy'.1 (by rw [hy'.2];exact hne) h4
    rw [hy'.2] at this
    exact (hk _ this).2 h2) (fun h2 y hy=>by
   cases hc:under y.p e.p with
   | false=>rfl
   | true =>
    obtain ⟨d,hdm,hdp,hdk⟩:=hO.below hne y.p.length (Nat.le_refl _) hy hc
    have:=BG (B:=B) hO.sorted hdm (by rw [hdp];exact hne) (by omega)
    rw [hdp] at this
    exact absurd ((hk _ this).1 hdk) h2)
 refine ⟨H.good,fun q hq=>?_⟩
 by_cases hqe:q=e.p
 ·rw [if_pos hqe,hqe,H.here,if_neg hkl.1]
 ·rw [if_neg hqe]
  by_cases h2:e.kind=2
  ·exact H.same q hq hqe (.inl h2)
  ·cases hu:under q e.p with
   | false=>exact H.same q hq hqe (.inr hu)
   | true=>rw [H.under h2 q hu,hno h2 q hu]
/-! an upper layer drops a path -/
def inW (p:List UInt8) (q:List UInt8):Bool:=decide (q=p) || under q p
def cutW (own:List Ent) (p:List UInt8):List Ent:=own.filter fun x => !inW p x.p
def aL (own B:List Ent) (p:ByteArray):List Ent :=
 if (getL B p.data.toList).isSome && !bI (cutW own p.data.toList) p.data.toList then aC (cutW own p.data.toList) (mkE p 4) else cutW own p.data.toList
theorem bW {p q:List UInt8}:inW p q=true↔q=p∨under q p=true:=by simp [inW]
theorem jh {own:List Ent} {p:List UInt8} {x:Ent}:x∈cutW own p↔x∈own∧inW p x.p=false:=by simp [cutW]
theorem yJ {B own:List Ent} {p:List UInt8} (hO:Good true own) (hp:p≠[]):Good true (cutW own p)∧∀ q,q≠[]→inW p q=false→seeL B (cutW own p) q=seeL B own q:=by
 refine ⟨⟨fun x hx=>hO.each x (jh.1 hx).1,List.Pairwise.filter _ hO.sorted,fun x hx=>?_⟩,fun q hq hw=>?_⟩
 ·obtain ⟨hx,hw⟩:=jh.1 hx
  rcases hO.dir x hx with g | ⟨d,hd,hdp,hdk⟩
  ·exact .inl g
  ·refine .inr ⟨d,jh.2 ⟨hd,?_⟩,hdp,hdk⟩
   cases hc:inW p d.p with
   | false=>rfl
   | true =>
    exfalso
    have hdn:=hO.ne hd
    have hu:under x.p d.p=true:=by rw [hdp];exact fJ (hO.ne hx) (by rw [← hdp];exact hdn)
    have:inW p x.p=true:=by
     rcases bW.1 hc with h | h
     ·exact bW.2 (.inr (by rw [← h];exact hu))
     ·exact bW.2 (.inr (jQ hdn hp hu h))
    rw [hw] at this;cases this
 ·have hg:getL (cutW own p) q=getL own q:=get_filter hO.sorted hq fun y hy hyp=>by rw [hyp,hw];rfl
  have hh:bI (cutW own p) q=bI own q:=by
   rw [Bool.eq_iff_iff]
   unfold bI
   simp only [List.any_eq_true]
   constructor
   ·rintro ⟨x,hx,h⟩;exact ⟨x,(jh.1 hx).1,h⟩
   ·rintro ⟨x,hx,h⟩
    refine ⟨x,jh.2 ⟨hx,?_⟩,h⟩
    cases hc:inW p x.p with
    | false=>rfl
    | true =>
     exfalso
     have hxn:=hO.ne hx
     have:inW p q=true:=by
      unfold bD at h
      simp only [Bool.or_eq_true,Bool.and_eq_true,decide_eq_true_eq] at h
      rcases h with ⟨h,_⟩ | ⟨h,_⟩
      ·rw [← h];exact hc
      ·rcases bW.1 hc with g | g
       ·exact bW.2 (.inr (by rw [← g];exact h))
       ·exact bW.2 (.inr (jQ hxn hp h g))
     rw [hw] at this;cases this
  unfold seeL
  rw [hg,hh]
theorem qp (q:ByteArray) (k:Int):(mkE q k).p=q.data.toList:=rfl
theorem EL (q:ByteArray) (k:Int):mkE q k=mkE (baL q.data.toList) k:=by
 unfold mkE
 congr 1
theorem wC {B own:List Ent} {p:ByteArray} (hB:Right false B) (hO:Good true own) (hc:clean p.data.toList=true)
  (hd:aA p.data.toList=[]∨∃ d,seeL B own (aA p.data.toList)=some d∧d.kind=2) :
  Good true (aL own B p)∧∀ q,q≠[]→seeL B (aL own B p) q=if inW p.data.toList q then none else seeL B own q:=by
 have hp:p.data.toList≠[]:=bX hc
 obtain ⟨hG,hsame⟩:=yJ (B:=B) hO hp
 have hnone:∀ q,q≠[]→inW p.data.toList q=true→getL (cutW own p.data.toList) q=none:=fun q hq hw =>
  bn hq fun y hy hyp=>by
   have:=(jh.1 hy).2
   rw [hyp,hw] at this;cases this
 unfold aL
 by_cases hcon:((getL B p.data.toList).isSome && !bI (cutW own p.data.toList) p.data.toList)=true
 ·rw [if_pos hcon]
  have hdn:aA p.data.toList=[]∨∃ d,seeL B (cutW own p.data.toList) (aA p.data.toList)=some d∧d.kind=2:=by
   rcases hd with g | ⟨d,h1,h2⟩
   ·exact .inl g
   ·by_cases h0:aA p.data.toList=[]
    ·exact .inl h0
    ·refine .inr ⟨d,?_,h2⟩
     rw [hsame _ h0 ?_]
     ·exact h1
     ·have hsh:=cO hp
      cases hw:inW p.data.toList (aA p.data.toList) with
      | false=>rfl
      | true =>
       rcases bW.1 hw with g | g
       ·rw [g] at hsh;omega
       ·have:=iG g hp;omega
  have H:=wG hB (mkE p 4).p.length (Nat.le_refl _) hG (by rw [EL];exact zW hc) rfl (by rw [qp];exact hdn) (fun h=>by cases h) (fun _ y hy=>by
   rw [qp]
   have:=(jh.1 hy).2
   unfold inW at this
   simp only [Bool.or_eq_false_iff] at this
   exact this.2)
  refine ⟨H.good,fun q hq=>?_⟩
  by_cases hqp:q=p.data.toList
  ·rw [hqp,if_pos (bW.2 (.inl rfl))]
   have:=H.here
   rw [qp] at this
   rw [this,if_pos (show (mkE p 4).kind=4 from rfl)]
  ·cases hu:under q p.data.toList with
   | true=>rw [if_pos (bW.2 (.inr hu))];exact H.under (by show ¬ (4:Int)=2;decide) q hu
   | false =>
    have hw:inW p.data.toList q=false:=by unfold inW;rw [hu];simp [hqp]
    rw [hw,H.same q hq hqp (.inr hu),hsame q hq hw]
    rfl
 ·rw [if_neg hcon]
  refine ⟨hG,fun q hq=>?_⟩
  cases hw:inW p.data.toList q with
  | false=>rw [hsame q hq hw];rfl
  | true =>
   rw [if_pos rfl]
   unfold seeL
   rw [hnone q hq hw]
   simp only
   by_cases hh:bI (cutW own p.data.toList) p.data.toList=true
   ·have:bI (cutW own p.data.toList) q=true:=by
     obtain ⟨y,hy,hhy⟩:=List.any_eq_true.1 hh
     refine List.any_eq_true.2 ⟨y,hy,?_⟩
     have hyn:=hG.ne hy
     have hyp:y.p≠p.data.toList:=fun h=>by
      have:=(jh.1 hy).2
      rw [h] at this
      rw [bW.2 (.inl rfl)] at this;cases this
     unfold bD at hhy ⊢
     simp only [hyp,decide_false,Bool.false_and,Bool.false_or,Bool.and_eq_true] at hhy
     have hu:under q y.p=true:=by
      rcases bW.1 hw with h | h
      ·rw [h];exact hhy.1
      ·exact jQ hp hyn h hhy.1
     rw [hu,hhy.2]
     simp
    rw [this];rfl
   ·have hB0:getL B p.data.toList=none:=by
     cases hg:getL B p.data.toList with
     | none=>rfl
     | some z=>exact absurd (by rw [hg];simp at hh ⊢;exact hh) hcon
    have:getL B q=none:=by
     refine bn hq fun y hy hyp=>?_
     rcases bW.1 hw with h | h
     ·exact (dQ hB0).2 y hy (hyp.trans h)
     ·obtain ⟨z,hz,hzp,_⟩:=hB.below hp y.p.length (Nat.le_refl _) hy (by rw [hyp];exact h)
      exact (dQ hB0).2 z hz hzp
    rw [this]
    split <;> rfl
theorem Ba (own:List Ent) (p:List UInt8):(cutW own p).length≤own.length:=List.length_filter_le _ _
theorem yO {own B:List Ent} {p:ByteArray} (hs:Sorted own):(aL own B p).length≤own.length+p.size+1∧Sorted (aL own B p):=by
 have h1:Sorted (cutW own p.data.toList):=List.Pairwise.filter _ hs
 have h2:=Ba own p.data.toList
 unfold aL
 split
 ·obtain ⟨h3,h4⟩:=mq (mkE p 4).p.length (own:=cutW own p.data.toList) (e:=mkE p 4) (Nat.le_refl _) h1
  have:(mkE p 4).p.length=p.size:=by rw [qp];rfl
  exact ⟨by omega,h3⟩
 ·exact ⟨by omega,h1⟩
end Go.Proofs.YthfeoiffoeagkaaGreatDoor.PM
namespace Go.Proofs.YthfeoiffoeagkaaGreatDoor
open Go.RowKit PM Go.Sort
set_option linter.unusedVariables false
namespace PM
def bZ (frm to:ByteArray) (o:List Ent) (M:List Ent):List Ent:=M.foldl (fun o e=>aC o (mvE frm to e)) o
def dL (own B s:List Ent) (to:ByteArray):List Ent:=if (getL s to.data.toList).isSome then aL own B to else own
def fV (own B s:List Ent) (frm to:ByteArray):List Ent:=bZ frm to (aL (dL own B s to) B frm) (s.filter (inM frm.data.toList))
end PM
theorem Ea (a s:List UInt8):∃ r,(r=[]∨∃ x,r=47::x)∧∀ b:List UInt8,aA (b++47::s)=b++r:=by
 rcases je s with hf | ⟨x,y,rfl,hy⟩
 ·exact ⟨[],.inl rfl,fun b=>by rw [aA,dM b s hf,List.append_nil]⟩
 ·refine ⟨47::x,.inr ⟨x,rfl⟩,fun b=>?_⟩
  rw [aA,show b++47::(x++47::y)=(b++47::x)++47::y by simp,dM _ y hy]
structure uZ (B s:List Ent) (frm to:ByteArray) (pre o:List Ent):Prop where
 good:PM.Good true o
 put:∀ q,q≠[]→∀ e∈pre,(mvE frm to e).p=q→seeL B o q=some (mvE frm to e)
 rest:∀ q,q≠[]→(∀ e∈pre,(mvE frm to e).p≠q)→seeL B o q=if inW frm.data.toList q then none else if inW to.data.toList q then none else getL s q
section
variable {B own s:List Ent} {frm to:ByteArray} (hB:Right false B) (h:MvOK s frm to)
include h
theorem MvOK.JX:inW frm.data.toList to.data.toList=false:=by
 unfold inW
 rw [h.nund]
 simp [Ne.symm h.ne]
theorem MvOK.neTo {e:Ent} (hi:inM frm.data.toList e=true):e.p≠to.data.toList:=fun hp=>by
 have h1:inW frm.data.toList e.p=true:=hi
 rw [hp,h.JX] at h1;cases h1
include hB
theorem EO {pre post o:List Ent} {e:Ent} (hM:s.filter (inM frm.data.toList)=pre++e::post) (I:uZ B s frm to pre o):uZ B s frm to (pre++[e]) (aC o (mvE frm to e)):=by
 have heM:e∈s.filter (inM frm.data.toList):=by rw [hM];simp
 obtain ⟨hes,hi⟩:=List.mem_filter.1 heM
 have hsM:Sorted (pre++e::post):=by rw [← hM];exact List.Pairwise.filter _ h.right.sorted
 have hsM':=List.pairwise_append.1 hsM
 obtain ⟨r,hr,hr'⟩:=jg h.fne hi
 have hmp:(mvE frm to e).p=to.data.toList++r:=iL hr
 have hcl:=h.cl e hes (h.neTo hi) hi
 have hw:aG (mvE frm to e) false=0:=uE (h.right.each e hes) rfl rfl rfl hcl
 have hmne:(mvE frm to e).p≠[]:=bX hcl
 have hmem:∀ e'∈pre,e'∈s∧inM frm.data.toList e'=true:=fun e' he'=>List.mem_filter.1 (by rw [hM];simp [he'])
 have hfresh:∀ e'∈pre,(mvE frm to e').p≠(mvE frm to e).p:=fun e' he' hp=>by
  obtain ⟨r',hr1,_⟩:=jg h.fne (hmem e' he').2
  rw [hmp,iL hr1] at hp
  rw [List.append_cancel_left hp] at hr1
  exact iT (hsM'.2.2 e' he' e (by simp)) (hr1.trans hr.symm)
 have hin:inW to.data.toList (mvE frm to e).p=true:=by
  rw [hmp]
  rcases hr' with rfl | ⟨x,rfl⟩
  ·exact bW.2 (.inl (by simp))
  ·exact bW.2 (.inr ((aS _ _ h.tne).2 ⟨x,rfl⟩))
 have hnone:seeL B o (mvE frm to e).p=none:=by
  rw [I.rest _ hmne hfresh,hin]
  split <;> rfl
 have hd:aA (mvE frm to e).p=[]∨∃ d,seeL B o (aA (mvE frm to e).p)=some d∧d.kind=2:=by
  rcases hr' with rfl | ⟨x,rfl⟩
  ·have hpt:(mvE frm to e).p=to.data.toList:=by rw [hmp];simp
   rw [hpt]
   rcases h.dir with g | ⟨d,hd,hdp,hdk⟩
   ·exact .inl g
   ·have hdn:aA to.data.toList≠[]:=by rw [← hdp];exact h.right.ne hd
    have hsh:=cO h.tne
    refine .inr ⟨d,?_,hdk⟩
    rw [I.rest _ hdn (fun e' he' hp=>by
     obtain ⟨r',hr1,_⟩:=jg h.fne (hmem e' he').2
     rw [iL hr1] at hp
     have:=congrArg List.length hp
     rw [List.length_append] at this;omega)]
    have h1:inW frm.data.toList (aA to.data.toList)=false:=by
     cases hc:inW frm.data.toList (aA to.data.toList) with
     | false=>rfl
     | true =>
      exfalso
      have hu:=fJ h.tne hdn
      have:=h.nund
      rcases bW.1 hc with g | g
      ·rw [← g,hu] at this;cases this
      ·rw [jQ hdn h.fne hu g] at this;cases this
    have h2:inW to.data.toList (aA to.data.toList)=false:=by
     cases hc:inW to.data.toList (aA to.data.toList) with
     | false=>rfl
     | true =>
      exfalso
      rcases bW.1 hc with g | g
      ·rw [g] at hsh;omega
      ·have:=iG g h.tne;omega
    rw [h1,h2]
    exact fM h.right.sorted hd hdp hdn
  ·obtain ⟨r2,hr2,hdo⟩:=Ea [] x
   have hde:aA e.p=frm.data.toList++r2:=by rw [hr];exact hdo _
   have hdm:aA (mvE frm to e).p=to.data.toList++r2:=by rw [hmp];exact hdo _
   have hden:aA e.p≠[]:=by rw [hde];intro h0;exact h.fne (List.append_eq_nil_iff.1 h0).1
   rcases h.right.dir e hes with g | ⟨d,hds,hdp,hdk⟩
   ·exact absurd g hden
   ·have hdr:d.p=frm.data.toList++r2:=hdp.trans hde
    have hdi:inM frm.data.toList d=true:=Ey h.fne hdr hr2
    have hdM:d∈pre++e::post:=by rw [← hM];exact List.mem_filter.2 ⟨hds,hdi⟩
    have hlt:ltE d e:=by unfold ltE;rw [hdp];exact Ee (h.right.ne hes) hden
    have hdpre:d∈pre:=by
     rcases List.mem_append.1 hdM with g | g
     ·exact g
     ·rcases List.mem_cons.1 g with rfl | g
      ·exact absurd rfl (iT hlt)
      ·exact (oo hlt ((List.pairwise_cons.1 hsM'.2.1).1 d g)).elim
    have hpd:(mvE frm to d).p=aA (mvE frm to e).p:=by rw [hdm];exact iL hdr
    exact .inr ⟨mvE frm to d,I.put _ (by rw [hdm];intro h0;exact h.tne (List.append_eq_nil_iff.1 h0).1) d hdpre hpd,hdk⟩
 obtain ⟨hG,hsee⟩:=wT hB I.good hw hd (fun y hy=>by rw [hnone] at hy;cases hy)
 refine ⟨hG,fun q hq e' he' hp=>?_,fun q hq hno=>?_⟩
 ·rcases List.mem_append.1 he' with g | g
  ·rw [hsee q hq,if_neg (by rw [← hp];exact hfresh e' g)]
   exact I.put q hq e' g hp
  ·rw [List.mem_singleton] at g
   subst g
   rw [hsee q hq,if_pos hp.symm]
 ·rw [hsee q hq,if_neg (fun g=>hno e (by simp) g.symm)]
  exact I.rest q hq fun e' he'=>hno e' (by simp [he'])
theorem xq:∀ (post pre o:List Ent),s.filter (inM frm.data.toList)=pre++post→uZ B s frm to pre o→uZ B s frm to (s.filter (inM frm.data.toList)) (bZ frm to o post)
 | [],pre,o,hM,I=>by rw [hM,List.append_nil];exact I
 | e::post,pre,o,hM,I=>xq post (pre++[e]) _ (by rw [hM];simp) (EO hB h hM I)
theorem IE (hO:PM.Good true own) (hs:∀ q,q≠[]→seeL B own q=getL s q) :
  PM.Good true (fV own B s frm to)∧∀ l:List Ent,l.Perm (bE s frm to)→(l.Pairwise fun a b=>¬ cmp b.p a.p<0)→∀ q,q≠[]→seeL B (fV own B s frm to) q=getL l q:=by
 obtain ⟨a,ha,hap⟩:=h.src
 have hfc:clean frm.data.toList=true:=by rw [← hap];exact h.right.clean ha
 have e1:PM.Good true (dL own B s to)∧∀ q,q≠[]→seeL B (dL own B s to) q=if inW to.data.toList q then none else getL s q:=by
  unfold dL
  by_cases hg:(getL s to.data.toList).isSome=true
  ·rw [if_pos hg]
   obtain ⟨g1,g2⟩:=wC hB hO h.tocl (by
    rcases h.dir with g | ⟨d,hd,hdp,hdk⟩
    ·exact .inl g
    ·have hdn:aA to.data.toList≠[]:=by rw [← hdp];exact h.right.ne hd
     exact .inr ⟨d,by rw [hs _ hdn];exact fM h.right.sorted hd hdp hdn,hdk⟩)
   exact ⟨g1,fun q hq=>by rw [g2 q hq,hs q hq]⟩
  ·rw [if_neg hg]
   refine ⟨hO,fun q hq=>?_⟩
   rw [hs q hq]
   cases hw:inW to.data.toList q with
   | false=>rfl
   | true =>
    rw [if_pos rfl]
    refine bn hq fun x hx hp=>?_
    rcases bW.1 hw with g | g
    ·apply hg
     rw [fM h.right.sorted hx (hp.trans g) h.tne];rfl
    ·have:=h.free x hx
     rw [hp,g] at this;cases this
 obtain ⟨G1,S1⟩:=e1
 have e2:=wC (p:=frm) hB G1 hfc (by
  rcases h.right.dir a ha with g | ⟨d,hd,hdp,hdk⟩
  ·rw [hap] at g;exact .inl g
  ·rw [hap] at hdp
   have hdn:aA frm.data.toList≠[]:=by rw [← hdp];exact h.right.ne hd
   refine .inr ⟨d,?_,hdk⟩
   rw [S1 _ hdn]
   have:inW to.data.toList (aA frm.data.toList)=false:=by
    cases hc:inW to.data.toList (aA frm.data.toList) with
    | false=>rfl
    | true =>
     exfalso
     have hu:=fJ h.fne hdn
     have hnu:=h.Gw
     rcases bW.1 hc with g | g
     ·rw [← g,hu] at hnu;cases hnu
     ·rw [jQ hdn h.tne hu g] at hnu;cases hnu
   rw [this]
   exact fM h.right.sorted hd hdp hdn)
 obtain ⟨G2,S2⟩:=e2
 have I0:uZ B s frm to [] (aL (dL own B s to) B frm):=⟨G2,fun q _ e he=>by simp at he,fun q hq _=>by rw [S2 q hq,S1 q hq]⟩
 have I:=xq hB h (s.filter (inM frm.data.toList)) [] _ rfl I0
 refine ⟨I.good,fun l hp hps q hq=>?_⟩
 have hR:=h.zx hp hps
 show seeL B (bZ frm to (aL (dL own B s to) B frm) (s.filter (inM frm.data.toList))) q=_
 by_cases hex:∃ e∈s.filter (inM frm.data.toList),(mvE frm to e).p=q
 ·obtain ⟨e,he,heq⟩:=hex
  rw [I.put q hq e he heq]
  obtain ⟨hes,hi⟩:=List.mem_filter.1 he
  exact (fM hR.sorted (h.goes hp hes hi) heq hq).symm
 ·have hno:∀ e∈s.filter (inM frm.data.toList),(mvE frm to e).p≠q:=fun e he hp=>hex ⟨e,he,hp⟩
  rw [I.rest q hq hno]
  have hback:∀ x∈l,x.p=q→x∈s∧x.p≠to.data.toList∧inM frm.data.toList x=false:=fun x hx hxp=>by
   obtain ⟨y,hy,hyT,hxy⟩:=(h.mem hp).1 hx
   cases hc:inM frm.data.toList y with
   | true =>
    rw [mvF,hc] at hxy
    exact absurd (by rw [← hxp,← hxy];rfl) (hno y (List.mem_filter.2 ⟨hy,hc⟩))
   | false =>
    rw [mvF,hc] at hxy
    have hxy:y=x:=hxy
    subst hxy
    exact ⟨hy,hyT,hc⟩
  cases hw1:inW frm.data.toList q with
  | true =>
   rw [if_pos rfl]
   refine (bn hq fun x hx hxp=>?_).symm
   have:=(hback x hx hxp).2.2
   have h2:inM frm.data.toList x=inW frm.data.toList x.p:=rfl
   rw [h2,hxp,hw1] at this;cases this
  | false =>
   rw [if_neg (by decide)]
   cases hw2:inW to.data.toList q with
   | true =>
    rw [if_pos rfl]
    refine (bn hq fun x hx hxp=>?_).symm
    obtain ⟨hxs,hxT,_⟩:=hback x hx hxp
    rcases bW.1 hw2 with g | g
    ·exact hxT (hxp.trans g)
    ·have:=h.free x hxs
     rw [hxp,g] at this;cases this
   | false =>
    rw [if_neg (by decide)]
    cases hg:getL s q with
    | none=>exact (bn hq fun x hx hxp=>(dQ hg).2 x (hback x hx hxp).1 hxp).symm
    | some z =>
     obtain ⟨hz,hzp⟩:=aM hq hg
     have h2:inM frm.data.toList z=inW frm.data.toList z.p:=rfl
     refine (fM hR.sorted (h.stays hp hz (fun hT=>?_) (by rw [h2,hzp,hw1])) hzp hq).symm
     rw [← hzp,hT,bW.2 (.inl rfl)] at hw2;cases hw2
end
theorem sS {t:List Ent} {e:Ent} (h:aQ t e=0):Right false t∧aG e false=0∧Right false (putL t e):=by
 have ha:gD t e=0:=by
  by_cases ha:gD t e=0
  ·exact ha
  ·rw [rW ha] at h;exact absurd h ha
 obtain ⟨h1,h2,h3⟩:=mF ha
 refine ⟨h1,h2,h1.put h2 h3 (fun x hx hp=>?_) (fun hn=>?_)⟩
 ·rw [rX ha hx hp] at h
  split at h
  ·rename_i hk
   rw [Bool.eq_iff_iff] at hk
   simpa using hk
  ·cases h
 ·rw [vU ha hn] at h
  split at h
  ·cases h
  ·have:=h1.len;omega
/-! the union whole -/
theorem uW {own:List Ent} {lows:List (List Ent)} {l:List Ent} (h0:(au lows).1=0) (hO:PM.Good true own) (hlen:own.length≤80) (hl:Right false l) (h:∀ q,q≠[]→seeL (au lows).2 own q=getL l q):au (own::lows)=(0,l):=by
 have hB:=iU h0
 have he:fE own (au lows).2=l:=Iq (jC hO.sorted hB.sorted) hl.sorted (fun e he=>(rR hO hB).ne he) (fun e he=>hl.ne he) fun q hq=>by rw [Ka hO.sorted hB.sorted hq];exact h q hq
 have hz:fq own (au lows).2=0:=kZ.2 ⟨hO.right hlen,hB,by rw [← uQ hO.sorted hB.sorted,he];exact hl.len⟩
 rw [mP h0,hz,if_pos rfl,he]
theorem oP {up:List Ent} {lows:List (List Ent)} (h:(au (up::lows)).1=0):(au lows).1=0∧Right true up∧Right false (au lows).2∧Right false (au (up::lows)).2∧∀ q,q≠[]→seeL (au lows).2 up q=getL (au (up::lows)).2 q:=by
 obtain ⟨h1,h2,h3⟩:=jB h
 obtain ⟨g1,g2,g3⟩:=kZ.1 h2
 refine ⟨h1,g1,g2,iU h,fun q hq=>?_⟩
 rw [h3,Ka g1.sorted g2.sorted hq]
theorem zo {t:List Ent} {e:Ent} (h:aQ t e=0):aW t (aA e.p)=0∧∀ x∈t,x.p=e.p→(x.kind=2↔e.kind=2):=by
 unfold aQ at h
 split at h
 ·rename_i ha
  refine ⟨(mF ha).2.2,fun x hx hp=>?_⟩
  split at h
  ·cases h
  ·rename_i g
   have:(x.kind == 2)=(e.kind == 2):=Decidable.byContradiction fun hc=>g ⟨x,hx,hp,hc⟩
   rw [Bool.eq_iff_iff] at this
   simpa using this
 ·rename_i ha;exact absurd h ha
theorem Fq {up s:List Ent} {lows:List (List Ent)} {e:Ent} (hm:au (up::lows)=(0,s)) (hp:aQ s e=0) :
  PM.Good true (aC up e)∧((aC up e).length≤80→au (aC up e::lows)=(0,putL s e)):=by
 obtain ⟨h1,hU,hB,hS,hsee⟩:=oP (up:=up) (lows:=lows) (by rw [hm])
 rw [hm] at hS hsee
 obtain ⟨_,hw,hR⟩:=sS hp
 obtain ⟨hnd,hk⟩:=zo hp
 have hne:=bX (bq hw)
 obtain ⟨hG,hs'⟩:=wT hB hU.good hw (by
  rcases dJ.1 hnd with g | ⟨d,_,_,hdk,hg⟩
  ·exact .inl g
  ·by_cases h0:aA e.p=[]
   ·exact .inl h0
   ·exact .inr ⟨d,by rw [hsee _ h0];exact hg,hdk⟩) (fun y hy=>by
  rw [hsee _ hne] at hy
  obtain ⟨hy1,hy2⟩:=aM hne hy
  exact hk y hy1 hy2)
 refine ⟨hG,fun hlen=>uW h1 hG hlen hR fun q hq=>?_⟩
 rw [hs' q hq,get_put hS.sorted hq,hsee q hq]
theorem zw {up s:List Ent} {lows:List (List Ent)} {p:ByteArray} (hm:au (up::lows)=(0,s)) (hp:bB s p.data.toList=0) :
  PM.Good true (aL up (au lows).2 p)∧((aL up (au lows).2 p).length≤80→au (aL up (au lows).2 p::lows)=(0,remL s p.data.toList)):=by
 obtain ⟨h1,hU,hB,hS,hsee⟩:=oP (up:=up) (lows:=lows) (by rw [hm])
 rw [hm] at hS hsee
 obtain ⟨_,⟨a,ha,hap⟩,hfr⟩:=oN hp
 have hc:clean p.data.toList=true:=by rw [← hap];exact hS.clean ha
 have hne:=bX hc
 obtain ⟨hG,hs'⟩:=wC (p:=p) hB hU.good hc (by
  rcases hS.dir a ha with g | ⟨d,hd,hdp,hdk⟩
  ·rw [hap] at g;exact .inl g
  ·rw [hap] at hdp
   have hdn:aA p.data.toList≠[]:=by rw [← hdp];exact hS.ne hd
   exact .inr ⟨d,by rw [hsee _ hdn];exact fM hS.sorted hd hdp hdn,hdk⟩)
 refine ⟨hG,fun hlen=>uW h1 hG hlen (hS.rem hne hfr) fun q hq=>?_⟩
 rw [hs' q hq,hsee q hq]
 cases hw:inW p.data.toList q with
 | true =>
  rw [if_pos rfl]
  refine (bn hq fun x hx hxp=>?_).symm
  obtain ⟨hx1,hx2⟩:=eX.1 hx
  rcases bW.1 hw with g | g
  ·exact hx2 (hxp.trans g)
  ·have:=hfr x hx1
   rw [hxp,g] at this;cases this
 | false =>
  rw [if_neg (by decide)]
  refine (get_filter hS.sorted hq fun y hy hyp=>?_).symm
  have:y.p≠p.data.toList:=fun hh=>by rw [← hyp,hh,bW.2 (.inl rfl)] at hw;cases hw
  simp [this]
theorem vL {up s:List Ent} {lows:List (List Ent)} {frm to:ByteArray} (hm:au (up::lows)=(0,s)) (hp:bg s frm to=0) (hne:frm.data.toList≠to.data.toList) :
  PM.Good true (fV up (au lows).2 s frm to)∧((fV up (au lows).2 s frm to).length≤80→∀ l:List Ent,l.Perm (bE s frm to)→(l.Pairwise fun a b=>¬ cmp b.p a.p<0)→au (fV up (au lows).2 s frm to::lows)=(0,l)):=by
 obtain ⟨h1,hU,hB,hS,hsee⟩:=oP (up:=up) (lows:=lows) (by rw [hm])
 rw [hm] at hS hsee
 have hok:=sO hp hne
 obtain ⟨hG,hs'⟩:=IE hB hok hU.good hsee
 exact ⟨hG,fun hlen l hpm hps=>uW h1 hG hlen (hok.zx hpm hps) (hs' l hpm hps)⟩
end Go.Proofs.YthfeoiffoeagkaaGreatDoor
