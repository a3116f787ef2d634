/-
  Plain mathematics of a union as lists of entries.
-/
import Derived.Test.YthfeoiffoeagkaaGreatDoorXA8
namespace Go.Proofs.YthfeoiffoeagkaaGreatDoor.PM
set_option linter.unusedVariables false
theorem Good.ne {b : Bool} {t : List Ent} (h : Good b t) {e : Ent} (he : e ∈ t) : e.p ≠ []:=dI (bA (h.each e he))
theorem Right.good {b : Bool} {t : List Ent} (h : Right b t) : Good b t:=⟨h.each,h.sorted,h.dir⟩
theorem Good.right {b : Bool} {t : List Ent} (h : Good b t) (hl : t.length ≤ 80) : Right b t:=⟨hl,h.each,h.sorted,h.dir⟩
theorem iB {a b : List UInt8} (h : under a b = true) (hb : b ≠ []) : b.length < a.length:=by
 obtain ⟨r,rfl⟩:=(aX _ _ hb).1 h
 simp
theorem Gt {a b : List UInt8} (hb : b ≠ []) (h : under a b = true) : a ≠ b:=by
 rintro rfl
 have:=iB h hb;omega
theorem Good.below {b : Bool} {t : List Ent} (h : Good b t) {p : List UInt8} (hp : p ≠ []) : ∀ (n : Nat) {e : Ent},e.p.length ≤ n → e ∈ t → under e.p p = true → ∃ d ∈ t,d.p = p ∧ d.kind = 2:=by
 intro n
 induction n with
 | zero => intro e hn he _;exact absurd (List.length_eq_zero_iff.1 (by omega)) (h.ne he)
 | succ n ih =>
  intro e hn he hu
  have hd : ∃ d ∈ t,d.p = aB e.p ∧ d.kind = 2:=by
   rcases h.dir e he with hd | hd
   ·rcases oO hp hu with g | g
    ·exact absurd (g.symm.trans hd) hp
    ·obtain ⟨r,e'⟩:=(aX _ _ hp).1 g
     rw [hd] at e';simp at e'
   ·exact hd
  obtain ⟨d,hdt,hdp,hdk⟩:=hd
  rcases oO hp hu with g | g
  ·exact ⟨d,hdt,hdp.trans g,hdk⟩
  ·exact ih (by rw [hdp];have:=dM (h.ne he);omega) hdt (by rw [hdp];exact g)
theorem II {a b : List Ent} (ha : Sorted a) (hb : Sorted b) (na : ∀ e ∈ a,e.p ≠ []) (nb : ∀ e ∈ b,e.p ≠ []) (h : ∀ q,q ≠ [] → getL a q = getL b q) : a = b:=by
 refine jg ha hb fun x => ⟨fun hx => ?_,fun hx => ?_⟩
 ·have h1:=iw ha hx (na x hx)
  rw [h _ (na x hx)] at h1
  exact (aR (na x hx) h1).1
 ·have h1:=iw hb hx (nb x hx)
  rw [← h _ (nb x hx)] at h1
  exact (aR (nb x hx) h1).1
theorem fO {t : List Ent} (hs : Sorted t) {y : Ent} {q : List UInt8} (hy : y ∈ t) (hp : y.p = q) (hq : q ≠ []) : getL t q = some y:=by
 subst hp;exact iw hs hy hq
theorem get_put {t : List Ent} {e : Ent} (hs : Sorted t) {q : List UInt8} (hq : q ≠ []) : getL (putL t e) q = if q = e.p then some e else getL t q:=by
 by_cases h : q = e.p
 ·rw [if_pos h];exact fO (eU hs e) (eG.2 (.inl rfl)) h.symm hq
 ·rw [if_neg h]
  cases hg : getL t q with
  | none =>
   refine bB hq fun x hx hp => ?_
   rcases eG.1 hx with rfl | ⟨hx,_⟩
   ·exact h hp.symm
   ·exact (eu hg).2 x hx hp
  | some y =>
   obtain ⟨hy,hp⟩:=aR hq hg
   exact fO (eU hs e) (eG.2 (.inr ⟨hy,by rw [hp];exact h⟩)) hp hq
theorem get_filter {t : List Ent} {f : Ent → Bool} (hs : Sorted t) {q : List UInt8} (hq : q ≠ []) (hf : ∀ y ∈ t,y.p = q → f y = true) : getL (t.filter f) q = getL t q:=by
 cases hg : getL t q with
 | none => exact bB hq fun x hx => (eu hg).2 x (List.mem_filter.1 hx).1
 | some y =>
  obtain ⟨hy,hp⟩:=aR hq hg
  exact fO (List.Pairwise.filter _ hs) (List.mem_filter.2 ⟨hy,hf y hy hp⟩) hp hq
/-! what is seen at a path -/
def seeL (B own : List Ent) (q : List UInt8) : Option Ent :=
 match getL own q with
 | some y => if y.kind = 4 then none else some (fJ y)
 | none => if bJ own q then none else getL B q
theorem mJ {l t : List Ent} (hl : Sorted l) (ht : Sorted t) {q : List UInt8} (hq : q ≠ []) : getL (eP l t) q = seeL t l q:=by
 unfold seeL
 cases hg : getL l q with
 | some y =>
  obtain ⟨hy,hp⟩:=aR hq hg
  by_cases hk : y.kind = 4
  ·simp only [if_pos hk]
   refine bB hq fun x hx he => ?_
   rcases (eX hl ht).1 hx with hx | hx
   ·obtain ⟨z,hz,hkz,rfl⟩:=gD.1 hx
    have:=lU hl hz hy (he.trans hp.symm)
    subst this
    exact hkz hk
   ·exact (eu (fE.1 hx).2.1).2 y hy (hp.trans he.symm)
  ·simp only [if_neg hk]
   exact fO (jG hl ht) ((eX hl ht).2 (.inl (gD.2 ⟨y,hy,hk,rfl⟩))) hp hq
 | none =>
  have hn:=(eu hg).2
  cases hh : bJ l q with
  | true =>
   simp only [if_true]
   refine bB hq fun x hx he => ?_
   rcases (eX hl ht).1 hx with hx | hx
   ·obtain ⟨z,hz,_,rfl⟩:=gD.1 hx
    exact hn z hz he
   ·have:=(fE.1 hx).2.2
    rw [he,hh] at this;cases this
  | false =>
   simp only [Bool.false_eq_true,if_false]
   cases hgt : getL t q with
   | none =>
    refine bB hq fun x hx he => ?_
    rcases (eX hl ht).1 hx with hx | hx
    ·obtain ⟨z,hz,_,rfl⟩:=gD.1 hx
     exact hn z hz he
    ·exact (eu hgt).2 x (fE.1 hx).1 he
   | some z =>
    obtain ⟨hz,hp⟩:=aR hq hgt
    exact fO (jG hl ht) ((eX hl ht).2 (.inr (fE.2 ⟨hz,by rw [hp];exact hg,by rw [hp];exact hh⟩))) hp hq
theorem sK {l t : List Ent} (hl : Good true l) (ht : Right false t) : Good false (eP l t):=by
 refine ⟨fun e he => ?_,jG hl.sorted ht.sorted,fun e he => ?_⟩
 ·rcases (eX hl.sorted ht.sorted).1 he with he | he
  ·obtain ⟨y,hy,hk,rfl⟩:=gD.1 he
   exact sO (hl.each y hy) hk
  ·exact ht.each e (fE.1 he).1
 ·have own_dir : ∀ d ∈ l,d.kind = 2 → ∃ x ∈ eP l t,x.p = d.p ∧ x.kind = 2:=fun d hd hk =>
   ⟨fJ d,(eX hl.sorted ht.sorted).2 (.inl (gD.2 ⟨d,hd,by omega,rfl⟩)),rfl,hk⟩
  rcases (eX hl.sorted ht.sorted).1 he with he | he
  ·obtain ⟨y,hy,hk,rfl⟩:=gD.1 he
   rcases hl.dir y hy with g | ⟨d,hd,hp,hk2⟩
   ·exact .inl g
   ·obtain ⟨x,h1,h2,h3⟩:=own_dir d hd hk2
    exact .inr ⟨x,h1,h2.trans hp,h3⟩
  ·obtain ⟨hm,hg,hh⟩:=fE.1 he
   rcases ht.dir e hm with g | ⟨d,hd,hp,hk2⟩
   ·exact .inl g
   ·have hdn : d.p ≠ []:=ht.ne hd
    have hu : under e.p d.p = true:=by rw [hp];exact fT (ht.ne hm) (by rw [← hp];exact hdn)
    have hno : ∀ y ∈ l,bF e.p y = false:=fun y hy => by
     cases hc : bF e.p y with
     | false => rfl
     | true => rw [show bJ l e.p = true from List.any_eq_true.2 ⟨y,hy,hc⟩] at hh;cases hh
    cases hgl : getL l d.p with
    | some y =>
     obtain ⟨hy,hyp⟩:=aR hdn hgl
     have hky : y.kind = 2:=by
      have:=hno y hy
      unfold bF at this
      rw [hyp,hu] at this
      by_cases hk : y.kind = 2
      ·exact hk
      ·simp [hk] at this
     obtain ⟨x,h1,h2,h3⟩:=own_dir y hy hky
     exact .inr ⟨x,h1,h2.trans (hyp.trans hp),h3⟩
    | none =>
     refine .inr ⟨d,(eX hl.sorted ht.sorted).2 (.inr (fE.2 ⟨hd,hgl,?_⟩)),hp,hk2⟩
     cases hc : bJ l d.p with
     | false => rfl
     | true =>
      obtain ⟨y,hy,hhy⟩:=List.any_eq_true.1 hc
      have:=hno y hy
      have hyd : ¬ y.p = d.p:=(eu hgl).2 y hy
      unfold bF at this hhy
      simp [hyd] at hhy
      rw [jU hdn (hl.ne hy) hu hhy.1] at this
      rcases hhy.2 with h | h <;> simp [h] at this
theorem Jd {B own : List Ent} (hO : Good true own) (hB : Right false B) {q : List UInt8} (hq : q ≠ []) {x : Ent} (hx : seeL B own q = some x) : aB q = [] ∨ ∃ d,seeL B own (aB q) = some d ∧ d.kind = 2:=by
 rw [← mJ hO.sorted hB.sorted hq] at hx
 obtain ⟨hm,hp⟩:=aR hq hx
 have hG:=sK hO hB
 rcases hG.dir x hm with g | ⟨d,hd,hdp,hk⟩
 ·exact .inl (by rw [← hp];exact g)
 ·rw [hp] at hdp
  by_cases h0 : aB q = []
  ·exact .inl h0
  ·refine .inr ⟨d,?_,hk⟩
   rw [← mJ hO.sorted hB.sorted h0]
   exact fO hG.sorted hd hdp h0
theorem EW {B own : List Ent} (hO : Good true own) (hB : Right false B) {p q : List UInt8} (hp : p ≠ []) (hu : under q p = true) {x : Ent} (hx : seeL B own q = some x) : ∃ d,seeL B own p = some d ∧ d.kind = 2:=by
 have hq : q ≠ []:=by rintro rfl;have:=iB hu hp;simp at this
 rw [← mJ hO.sorted hB.sorted hq] at hx
 obtain ⟨hm,hxp⟩:=aR hq hx
 have hG:=sK hO hB
 obtain ⟨d,hd,hdp,hk⟩:=hG.below hp x.p.length (Nat.le_refl _) hm (by rw [hxp];exact hu)
 refine ⟨d,?_,hk⟩
 rw [← mJ hO.sorted hB.sorted hp]
 exact fO hG.sorted hd hdp hp
theorem BS {B own : List Ent} (hs : Sorted own) {y : Ent} (hy : y ∈ own) (hne : y.p ≠ []) (hk : ¬ y.kind = 4) : seeL B own y.p = some (fJ y):=by
 unfold seeL
 rw [iw hs hy hne]
 simp only [if_neg hk]
/-! an upper layer has an entry -/
def mkE (q : ByteArray) (k : Int) : Ent:=⟨q,k,⟨#[]⟩,false⟩
def baL (l : List UInt8) : ByteArray:=⟨l.toArray⟩
theorem gB (l : List UInt8) (k : Int) : (mkE (baL l) k).p = l:=by simp [mkE,baL,Ent.p]
def fu (t : List Ent) (q : List UInt8) : Bool:=match getL t q with | some d => d.kind == 2 | none => false
def fixE (own : List Ent) (e : Ent) : Ent:=match getL own e.p with | some old => { e with opq:=e.kind == 2 && (old.opq || old.kind == 4) } | none => e
theorem Ju (own : List Ent) (e : Ent) : (fixE own e).p = e.p:=by unfold fixE;split <;> rfl
theorem JK (own : List Ent) (e : Ent) : (fixE own e).kind = e.kind:=by unfold fixE;split <;> rfl
theorem Jz (own : List Ent) (e : Ent) : (fixE own e).text = e.text:=by unfold fixE;split <;> rfl
def bI (own : List Ent) (e : Ent) : List Ent:=putL own (fixE own e)
def kJ : Nat → List Ent → Ent → List Ent
 | 0,own,e => bI own e
 | n + 1,own,e => if fu own (aB e.p) then bI own e else bI (kJ n own (mkE (baL (aB e.p)) 2)) e
def aF (own : List Ent) (e : Ent) : List Ent:=kJ e.p.length own e
theorem iE (own : List Ent) : fu own [] = true:=by simp [fu,dW,dirE]
theorem wC : ∀ (n m : Nat) (own : List Ent) (e : Ent),e.p.length ≤ n → e.p.length ≤ m → kJ n own e = kJ m own e
 | 0,0,_,_,_,_ => rfl
 | 0,m + 1,own,e,h,_ => by
  have : e.p = []:=List.length_eq_zero_iff.1 (by omega)
  have hd : aB e.p = []:=by rw [this];rfl
  rw [kJ,kJ,hd,iE,if_pos rfl]
 | n + 1,0,own,e,_,h => by
  have : e.p = []:=List.length_eq_zero_iff.1 (by omega)
  have hd : aB e.p = []:=by rw [this];rfl
  rw [kJ,kJ,hd,iE,if_pos rfl]
 | n + 1,m + 1,own,e,h,g => by
  rw [kJ,kJ]
  by_cases hd : fu own (aB e.p) = true
  ·rw [if_pos hd,if_pos hd]
  ·rw [if_neg hd,if_neg hd]
   have hne : e.p ≠ []:=by
    intro h0
    apply hd
    rw [h0]
    exact iE own
   have hl : (mkE (baL (aB e.p)) 2).p.length < e.p.length:=by rw [gB];exact dM hne
   rw [wC n m own _ (by omega) (by omega)]
theorem nA {own : List Ent} {e : Ent} (h : fu own (aB e.p) = true) : aF own e = bI own e:=by
 unfold aF
 cases hn : e.p.length with
 | zero => rfl
 | succ n => rw [kJ,if_pos h]
theorem oC {own : List Ent} {e : Ent} (h : ¬ fu own (aB e.p) = true) : aF own e = bI (aF own (mkE (baL (aB e.p)) 2)) e:=by
 have hne : e.p ≠ []:=by
  intro h0
  apply h
  rw [h0]
  exact iE own
 have hl:=dM hne
 unfold aF
 cases hn : e.p.length with
 | zero => omega
 | succ n =>
  rw [kJ,if_neg h,wC n (mkE (baL (aB e.p)) 2).p.length own _ (by rw [gB];omega) (Nat.le_refl _)]
theorem xq {own : List Ent} (e : Ent) (hs : Sorted own) : (bI own e).length ≤ own.length + 1:=by
 unfold bI
 rw [pI hs]
 split <;> omega
theorem oG {own : List Ent} (e : Ent) (hs : Sorted own) : Sorted (bI own e):=eU hs _
theorem mQ : ∀ (n : Nat) {own : List Ent} {e : Ent},e.p.length ≤ n → Sorted own → Sorted (aF own e) ∧ (aF own e).length ≤ own.length + e.p.length + 1
 | n,own,e,hn,hs => by
  by_cases h : fu own (aB e.p) = true
  ·rw [nA h]
   exact ⟨oG e hs,by have:=xq e hs;omega⟩
  ·have hne : e.p ≠ []:=by
    intro h0
    apply h
    rw [h0]
    exact iE own
   have hl:=dM hne
   rw [oC h]
   cases n with
   | zero => exact absurd (List.length_eq_zero_iff.1 (by omega)) hne
   | succ n =>
    obtain ⟨h1,h2⟩:=mQ n (own:=own) (e:=mkE (baL (aB e.p)) 2) (by rw [gB];omega) hs
    rw [gB] at h2
    exact ⟨oG e h1,by have:=xq e h1;omega⟩
structure FR (B own : List Ent) (e : Ent) (own' : List Ent) : Prop where
 good : Good true own'
 same : ∀ q,q ≠ [] → q ≠ e.p → (e.kind = 2 ∨ under q e.p = false) → seeL B own' q = seeL B own q
 here : seeL B own' e.p = if e.kind = 4 then none else some e
 under : ¬ e.kind = 2 → ∀ q,under q e.p = true → seeL B own' q = none
 there : ∃ y ∈ own',y.p = e.p ∧ y.kind = e.kind
 mem : ∀ x ∈ own',x ∈ own ∨ x.p = e.p ∨ PM.under e.p x.p = true
theorem Dx {e : Ent} {b : Bool} (h : aI e true = 0) (hb : b = true → e.kind = 2) : aI { e with opq:=b } true = 0:=by
 have hp : ({ e with opq:=b } : Ent).p = e.p:=rfl
 unfold aI at h ⊢
 rw [hp]
 simp only at h ⊢
 split at h
 ·omega
 rename_i c1
 rw [if_neg c1]
 split at h
 ·omega
 rename_i c2
 rw [if_neg c2]
 split at h
 ·omega
 rename_i c3
 rw [if_neg c3]
 split at h
 ·omega
 rename_i c4
 rw [if_neg]
 intro c
 apply c4
 cases b with
 | false =>
  simp only [Bool.false_and,Bool.or_false] at c
  rw [c];rfl
 | true =>
  have hk:=hb rfl
  simp [hk] at c ⊢
  exact c
theorem qO {own : List Ent} {q : List UInt8} (hq : q ≠ []) : fu own q = true ↔ ∃ d,getL own q = some d ∧ d.kind = 2:=by
 unfold fu
 cases getL own q with
 | none => simp
 | some d => simp
theorem zQ {B own : List Ent} {e : Ent} (hO : Good true own) (he : aI e true = 0) (hop : e.opq = false)
  (hd : fu own (aB e.p) = true) (hk : e.kind = 2 → ∀ y,getL own e.p = some y → y.kind = 2 ∨ y.kind = 4) (hn : ¬ e.kind = 2 → ∀ y ∈ own,under y.p e.p = false) : FR B own e (bI own e):=by
 have hne : e.p ≠ []:=dI (bA he)
 have hs:=hO.sorted
 have hfp:=Ju own e
 have hfk:=JK own e
 have hfc : fJ (fixE own e) = e:=by
  unfold fixE
  split
  ·show Ent.mk e.path e.kind e.text false = e
   rw [← hop]
  ·exact xZ hop
 have hfw : aI (fixE own e) true = 0:=by
  unfold fixE
  split
  ·exact Dx he (fun h => by simp at h;exact h.1)
  ·exact he
 have hmem : ∀ x,x ∈ bI own e ↔ x = fixE own e ∨ x ∈ own ∧ x.p ≠ e.p:=fun x => by unfold bI;rw [eG,hfp]
 have hget : ∀ q,q ≠ [] → getL (bI own e) q = if q = e.p then some (fixE own e) else getL own q:=fun q hq => by
  unfold bI;rw [get_put hs hq,hfp]
 have hfar : ∀ q,q ≠ e.p → under q e.p = false → ∀ z : Ent,z.p = e.p → bF q z = false:=fun q h1 h2 z hz => by
  unfold bF
  rw [hz,h2]
  simp [Ne.symm h1]
 have hhid : ∀ q,q ≠ e.p → (e.kind = 2 ∨ under q e.p = false) → bJ (bI own e) q = bJ own q:=fun q h1 h2 => by
  have key : (∀ y ∈ own,y.p = e.p → bF q (fixE own e) = bF q y) ∧ ((∀ y ∈ own,y.p ≠ e.p) → bF q (fixE own e) = false):=by
   cases hu : under q e.p with
   | false => exact ⟨fun y hy hp => by rw [hfar q h1 hu _ hfp,hfar q h1 hu _ hp],fun _ => hfar q h1 hu _ hfp⟩
   | true =>
    have hk2 : e.kind = 2:=by
     rcases h2 with h | h
     ·exact h
     ·rw [hu] at h;cases h
    refine ⟨fun y hy hp => ?_,fun h => ?_⟩
    ·have hgy : getL own e.p = some y:=fO hs hy hp hne
     unfold bF
     rw [hfp,hfk,hp,hu,hk2]
     have hfo : (fixE own e).opq = (y.opq || y.kind == 4):=by
      unfold fixE;rw [hgy];simp [hk2]
     rw [hfo]
     rcases hk hk2 y hgy with h | h
     ·simp [h]
     ·simp [h]
    ·have hgy : getL own e.p = none:=bB hne h
     have hfo : fixE own e = e:=by unfold fixE;rw [hgy]
     rw [hfo]
     unfold bF
     simp [hk2,hop]
  rw [Bool.eq_iff_iff]
  unfold bJ
  simp only [List.any_eq_true]
  constructor
  ·rintro ⟨x,hx,hh⟩
   rcases (hmem x).1 hx with rfl | ⟨hx,_⟩
   ·by_cases h : ∃ y ∈ own,y.p = e.p
    ·obtain ⟨y,hy,hp⟩:=h
     exact ⟨y,hy,by rw [← key.1 y hy hp];exact hh⟩
    ·rw [key.2 (fun y hy hp => h ⟨y,hy,hp⟩)] at hh;cases hh
   ·exact ⟨x,hx,hh⟩
  ·rintro ⟨x,hx,hh⟩
   by_cases hp : x.p = e.p
   ·exact ⟨_,(hmem _).2 (.inl rfl),by rw [key.1 x hx hp];exact hh⟩
   ·exact ⟨x,(hmem _).2 (.inr ⟨hx,hp⟩),hh⟩
 refine ⟨⟨fun x hx => ?_,oG e hs,fun x hx => ?_⟩,fun q hq h1 h2 => ?_,?_,fun h2 q hu => ?_,⟨fixE own e,(hmem _).2 (.inl rfl),hfp,hfk⟩,fun x hx => ?_⟩
 ·rcases (hmem x).1 hx with rfl | ⟨hx,_⟩
  ·exact hfw
  ·exact hO.each x hx
 ·have keep : ∀ d ∈ own,d.kind = 2 → (d.p = e.p → e.kind = 2) → ∃ z ∈ bI own e,z.p = d.p ∧ z.kind = 2:=fun d hd hdk hde => by
   by_cases hp : d.p = e.p
   ·exact ⟨_,(hmem _).2 (.inl rfl),by rw [hfp,hp],by rw [hfk];exact hde hp⟩
   ·exact ⟨d,(hmem _).2 (.inr ⟨hd,hp⟩),rfl,hdk⟩
  rcases (hmem x).1 hx with rfl | ⟨hx,hxe⟩
  ·rw [hfp]
   by_cases h0 : aB e.p = []
   ·exact .inl h0
   ·obtain ⟨d,hg,hdk⟩:=(qO h0).1 hd
    obtain ⟨hdm,hdp⟩:=aR h0 hg
    obtain ⟨z,hz,h1,h2⟩:=keep d hdm hdk (fun h => by have:=dM hne;rw [← hdp,h] at this;omega)
    exact .inr ⟨z,hz,h1.trans hdp,h2⟩
  ·rcases hO.dir x hx with g | ⟨d,hdm,hdp,hdk⟩
   ·exact .inl g
   ·obtain ⟨z,hz,h1,h2⟩:=keep d hdm hdk (fun h => by
     rcases Decidable.em (e.kind = 2) with h2 | h2
     ·exact h2
     ·have:=hn h2 x hx
      rw [← h,hdp,fT (hO.ne hx) (by rw [← hdp,h];exact hne)] at this
      cases this)
    exact .inr ⟨z,hz,h1.trans hdp,h2⟩
 ·unfold seeL
  rw [hget q hq,if_neg h1,hhid q h1 h2]
 ·unfold seeL
  rw [hget _ hne,if_pos rfl]
  simp only [hfk,hfc]
 ·have hq : q ≠ []:=by rintro rfl;have:=iB hu hne;simp at this
  have hqe : q ≠ e.p:=Gt hne hu
  unfold seeL
  rw [hget q hq,if_neg hqe]
  have hg : getL own q = none:=bB hq fun y hy hp => by
   have:=hn h2 y hy
   rw [hp,hu] at this;cases this
  have hh : bJ (bI own e) q = true:=List.any_eq_true.2 ⟨fixE own e,(hmem _).2 (.inl rfl),by unfold bF;rw [hfp,hfk,hu];simp [h2]⟩
  rw [hg,hh]
  rfl
 ·rcases (hmem x).1 hx with rfl | ⟨hx,_⟩
  ·exact .inr (.inl hfp)
  ·exact .inl hx
theorem F5 {l : List UInt8} (h : clean l = true) : aB l = [] ∨ clean (aB l) = true:=(FT l h).2.2.1
theorem CK {q : List UInt8} (h : clean q = true) : aI (mkE (baL q) 2) true = 0:=by
 unfold aI
 rw [gB,h]
 simp [mkE,ByteArray.size]
theorem zJ {q : List UInt8} (h : clean q = true) : aI (mkE (baL q) 4) true = 0:=by
 unfold aI
 rw [gB,h]
 simp [mkE,ByteArray.size]
theorem ES {d : Ent} (h : aI d false = 0) (hk : d.kind = 2) : d = mkE (baL d.p) 2:=by
 have ho:=(lJ h).2
 have ht : d.text.size = 0:=by
  unfold aI at h
  split at h
  ·omega
  split at h
  ·omega
  split at h
  ·omega
  split at h
  ·omega
  rename_i c
  by_cases h0 : d.text.size = 0
  ·exact h0
  ·exact absurd (by simp [hk,h0]) c
 obtain ⟨p,k,t,o⟩:=d
 simp only at hk ho ht
 subst hk ho
 have h0 : t.data.toList = []:=List.length_eq_zero_iff.1 (by rw [Array.length_toList];exact ht)
 have h1 : t = ⟨#[]⟩:=dB h0
 subst h1
 show Ent.mk p 2 _ false = Ent.mk (baL p.data.toList) 2 _ false
 congr 1
theorem wV {B : List Ent} (hB : Right false B) : ∀ (n : Nat) {own : List Ent} {e : Ent},e.p.length ≤ n → Good true own → aI e true = 0 → e.opq = false →
  (aB e.p = [] ∨ ∃ d,seeL B own (aB e.p) = some d ∧ d.kind = 2) → (e.kind = 2 → ∀ y,getL own e.p = some y → y.kind = 2 ∨ y.kind = 4) → (¬ e.kind = 2 → ∀ y ∈ own,under y.p e.p = false) → FR B own e (aF own e)
 | n,own,e,hl,hO,he,hop,hd,hk,hn => by
  have hne : e.p ≠ []:=dI (bA he)
  by_cases h : fu own (aB e.p) = true
  ·rw [nA h]
   exact zQ hO he hop h hk hn
  ·have h0 : aB e.p ≠ []:=fun h0 => h (by rw [h0];exact iE own)
   have hsh:=dM hne
   have hu : under e.p (aB e.p) = true:=fT hne h0
   have hcl : clean (aB e.p) = true:=by
    rcases F5 (bA he) with g | g
    ·exact absurd g h0
    ·exact g
   obtain ⟨d,hsd,hdk⟩ : ∃ d,seeL B own (aB e.p) = some d ∧ d.kind = 2:=by
    rcases hd with g | g
    ·exact absurd g h0
    ·exact g
   have hgn : getL own (aB e.p) = none:=by
    cases hg : getL own (aB e.p) with
    | none => rfl
    | some y =>
     exfalso
     unfold seeL at hsd
     rw [hg] at hsd
     simp only at hsd
     split at hsd
     ·cases hsd
     ·cases hsd
      exact h ((qO h0).2 ⟨y,hg,hdk⟩)
   have hdB : d ∈ B ∧ d.p = aB e.p:=by
    unfold seeL at hsd
    rw [hgn] at hsd
    simp only at hsd
    split at hsd
    ·cases hsd
    ·exact aR h0 hsd
   have hde : d = mkE (baL (aB e.p)) 2:=by
    have:=ES (hB.each d hdB.1) hdk
    rw [hdB.2] at this;exact this
   cases n with
   | zero => exact absurd (List.length_eq_zero_iff.1 (by omega)) hne
   | succ n =>
    have ih:=wV hB n (own:=own) (e:=mkE (baL (aB e.p)) 2) (by rw [gB];omega) hO (CK hcl) rfl
     (by rw [gB];exact Jd hO hB h0 hsd) (fun _ y hy => by rw [gB,hgn] at hy;cases hy) (fun h => absurd rfl h)
    rw [oC h]
    generalize aF own (mkE (baL (aB e.p)) 2) = o at ih
    have hsee : ∀ q,q ≠ [] → seeL B o q = seeL B own q:=fun q hq => by
     by_cases hqd : q = aB e.p
     ·have:=ih.here
      rw [gB] at this
      rw [hqd,this,hsd,if_neg (by show ¬ (2 : Int) = 4;decide),hde]
     ·exact ih.same q hq (by rw [gB];exact hqd) (.inl rfl)
    have hno : ∀ y ∈ o,y.p ≠ e.p:=fun y hy hp => by
     rcases ih.mem y hy with g | g | g
     ·obtain ⟨z,hz,hzp,_⟩:=hO.below h0 y.p.length (Nat.le_refl _) g (by rw [hp];exact hu)
      exact (eu hgn).2 z hz hzp
     ·rw [gB,hp] at g
      rw [← g] at hsh;omega
     ·rw [gB,hp] at g
      have:=iB g hne;omega
    have hdo : fu o (aB e.p) = true:=by
     obtain ⟨y,hy,hyp,hyk⟩:=ih.there
     rw [gB] at hyp
     exact (qO h0).2 ⟨y,fO ih.good.sorted hy hyp h0,hyk⟩
    have st:=zQ (B:=B) (own:=o) ih.good he hop hdo (fun _ y hy => absurd (aR hne hy).2 (hno y (aR hne hy).1)) (fun h2 y hy => by
     cases hc : under y.p e.p with
     | false => rfl
     | true =>
      exfalso
      rcases ih.mem y hy with g | g | g
      ·have:=hn h2 y g
       rw [hc] at this;cases this
      ·rw [gB] at g
       rw [g] at hc
       have:=iB hc hne;omega
      ·rw [gB] at g
       have h1:=iB hc hne
       have h2:=iB g (by intro h;rw [h] at h1;simp at h1)
       omega)
    refine ⟨st.good,fun q hq h1 h2 => (st.same q hq h1 h2).trans (hsee q hq),st.here,st.under,st.there,fun x hx => ?_⟩
    rcases st.mem x hx with g | g | g
    ·rcases ih.mem x g with g | g | g
     ·exact .inl g
     ·rw [gB] at g
      exact .inr (.inr (by rw [g];exact hu))
     ·rw [gB] at g
      have hxn : x.p ≠ []:=by
       intro h
       exact ih.good.ne (e:=x) (by assumption) h
      exact .inr (.inr (jU h0 hxn hu g))
    ·exact .inr (.inl g)
    ·exact .inr (.inr g)
theorem xE {B own : List Ent} {e : Ent} (hB : Right false B) (hO : Good true own) (he : aI e false = 0)
  (hd : aB e.p = [] ∨ ∃ d,seeL B own (aB e.p) = some d ∧ d.kind = 2) (hk : ∀ y,seeL B own e.p = some y → (y.kind = 2 ↔ e.kind = 2)) :
  Good true (aF own e) ∧ (∀ q,q ≠ [] → seeL B (aF own e) q = if q = e.p then some e else seeL B own q):=by
 have hkl:=lJ he
 have hne : e.p ≠ []:=dI (bA he)
 have hno : ¬ e.kind = 2 → ∀ q,under q e.p = true → seeL B own q = none:=fun h2 q hu => by
  cases hc : seeL B own q with
  | none => rfl
  | some x =>
   obtain ⟨d,hd,hdk⟩:=EW hO hB hne hu hc
   exact absurd ((hk d hd).1 hdk) h2
 have H:=wV hB e.p.length (Nat.le_refl _) hO (sM he) hkl.2 hd (fun h2 y hy => by
   have hy':=aR hne hy
   by_cases h4 : y.kind = 4
   ·exact .inr h4
   ·left
    have:=BS (B:=B) hO.sorted hy'.1 (by rw [hy'.2];exact hne) h4
    rw [hy'.2] at this
    exact (hk _ this).2 h2) (fun h2 y hy => by
   cases hc : under y.p e.p with
   | false => rfl
   | true =>
    obtain ⟨d,hdm,hdp,hdk⟩:=hO.below hne y.p.length (Nat.le_refl _) hy hc
    have:=BS (B:=B) hO.sorted hdm (by rw [hdp];exact hne) (by omega)
    rw [hdp] at this
    exact absurd ((hk _ this).1 hdk) h2)
 refine ⟨H.good,fun q hq => ?_⟩
 by_cases hqe : q = e.p
 ·rw [if_pos hqe,hqe,H.here,if_neg hkl.1]
 ·rw [if_neg hqe]
  by_cases h2 : e.kind = 2
  ·exact H.same q hq hqe (.inl h2)
  ·cases hu : under q e.p with
   | false => exact H.same q hq hqe (.inr hu)
   | true => rw [H.under h2 q hu,hno h2 q hu]
/-! an upper layer drops a path -/
def inW (p : List UInt8) (q : List UInt8) : Bool:=decide (q = p) || under q p
def cutW (own : List Ent) (p : List UInt8) : List Ent:=own.filter fun x => !inW p x.p
def aM (own B : List Ent) (p : ByteArray) : List Ent :=
 if (getL B p.data.toList).isSome && !bJ (cutW own p.data.toList) p.data.toList then aF (cutW own p.data.toList) (mkE p 4) else cutW own p.data.toList
theorem cK {p q : List UInt8} : inW p q = true ↔ q = p ∨ under q p = true:=by simp [inW]
theorem jv {own : List Ent} {p : List UInt8} {x : Ent} : x ∈ cutW own p ↔ x ∈ own ∧ inW p x.p = false:=by simp [cutW]
theorem za {B own : List Ent} {p : List UInt8} (hO : Good true own) (hp : p ≠ []) : Good true (cutW own p) ∧ ∀ q,q ≠ [] → inW p q = false → seeL B (cutW own p) q = seeL B own q:=by
 refine ⟨⟨fun x hx => hO.each x (jv.1 hx).1,List.Pairwise.filter _ hO.sorted,fun x hx => ?_⟩,fun q hq hw => ?_⟩
 ·obtain ⟨hx,hw⟩:=jv.1 hx
  rcases hO.dir x hx with g | ⟨d,hd,hdp,hdk⟩
  ·exact .inl g
  ·refine .inr ⟨d,jv.2 ⟨hd,?_⟩,hdp,hdk⟩
   cases hc : inW p d.p with
   | false => rfl
   | true =>
    exfalso
    have hdn:=hO.ne hd
    have hu : under x.p d.p = true:=by rw [hdp];exact fT (hO.ne hx) (by rw [← hdp];exact hdn)
    have : inW p x.p = true:=by
     rcases cK.1 hc with h | h
     ·exact cK.2 (.inr (by rw [← h];exact hu))
     ·exact cK.2 (.inr (jU hdn hp hu h))
    rw [hw] at this;cases this
 ·have hg : getL (cutW own p) q = getL own q:=get_filter hO.sorted hq fun y hy hyp => by rw [hyp,hw];rfl
  have hh : bJ (cutW own p) q = bJ own q:=by
   rw [Bool.eq_iff_iff]
   unfold bJ
   simp only [List.any_eq_true]
   constructor
   ·rintro ⟨x,hx,h⟩;exact ⟨x,(jv.1 hx).1,h⟩
   ·rintro ⟨x,hx,h⟩
    refine ⟨x,jv.2 ⟨hx,?_⟩,h⟩
    cases hc : inW p x.p with
    | false => rfl
    | true =>
     exfalso
     have hxn:=hO.ne hx
     have : inW p q = true:=by
      unfold bF at h
      simp only [Bool.or_eq_true,Bool.and_eq_true,decide_eq_true_eq] at h
      rcases h with ⟨h,_⟩ | ⟨h,_⟩
      ·rw [← h];exact hc
      ·rcases cK.1 hc with g | g
       ·exact cK.2 (.inr (by rw [← g];exact h))
       ·exact cK.2 (.inr (jU hxn hp h g))
     rw [hw] at this;cases this
  unfold seeL
  rw [hg,hh]
theorem ru (q : ByteArray) (k : Int) : (mkE q k).p = q.data.toList:=rfl
theorem Eh (q : ByteArray) (k : Int) : mkE q k = mkE (baL q.data.toList) k:=by
 unfold mkE
 congr 1
theorem wT {B own : List Ent} {p : ByteArray} (hB : Right false B) (hO : Good true own) (hc : clean p.data.toList = true)
  (hd : aB p.data.toList = [] ∨ ∃ d,seeL B own (aB p.data.toList) = some d ∧ d.kind = 2) :
  Good true (aM own B p) ∧ ∀ q,q ≠ [] → seeL B (aM own B p) q = if inW p.data.toList q then none else seeL B own q:=by
 have hp : p.data.toList ≠ []:=dI hc
 obtain ⟨hG,hsame⟩:=za (B:=B) hO hp
 have hnone : ∀ q,q ≠ [] → inW p.data.toList q = true → getL (cutW own p.data.toList) q = none:=fun q hq hw =>
  bB hq fun y hy hyp => by
   have:=(jv.1 hy).2
   rw [hyp,hw] at this;cases this
 unfold aM
 by_cases hcon : ((getL B p.data.toList).isSome && !bJ (cutW own p.data.toList) p.data.toList) = true
 ·rw [if_pos hcon]
  have hdn : aB p.data.toList = [] ∨ ∃ d,seeL B (cutW own p.data.toList) (aB p.data.toList) = some d ∧ d.kind = 2:=by
   rcases hd with g | ⟨d,h1,h2⟩
   ·exact .inl g
   ·by_cases h0 : aB p.data.toList = []
    ·exact .inl h0
    ·refine .inr ⟨d,?_,h2⟩
     rw [hsame _ h0 ?_]
     ·exact h1
     ·have hsh:=dM hp
      cases hw : inW p.data.toList (aB p.data.toList) with
      | false => rfl
      | true =>
       rcases cK.1 hw with g | g
       ·rw [g] at hsh;omega
       ·have:=iB g hp;omega
  have H:=wV hB (mkE p 4).p.length (Nat.le_refl _) hG (by rw [Eh];exact zJ hc) rfl (by rw [ru];exact hdn) (fun h => by cases h) (fun _ y hy => by
   rw [ru]
   have:=(jv.1 hy).2
   unfold inW at this
   simp only [Bool.or_eq_false_iff] at this
   exact this.2)
  refine ⟨H.good,fun q hq => ?_⟩
  by_cases hqp : q = p.data.toList
  ·rw [hqp,if_pos (cK.2 (.inl rfl))]
   have:=H.here
   rw [ru] at this
   rw [this,if_pos (show (mkE p 4).kind = 4 from rfl)]
  ·cases hu : under q p.data.toList with
   | true => rw [if_pos (cK.2 (.inr hu))];exact H.under (by show ¬ (4 : Int) = 2;decide) q hu
   | false =>
    have hw : inW p.data.toList q = false:=by unfold inW;rw [hu];simp [hqp]
    rw [hw,H.same q hq hqp (.inr hu),hsame q hq hw]
    rfl
 ·rw [if_neg hcon]
  refine ⟨hG,fun q hq => ?_⟩
  cases hw : inW p.data.toList q with
  | false => rw [hsame q hq hw];rfl
  | true =>
   rw [if_pos rfl]
   unfold seeL
   rw [hnone q hq hw]
   simp only
   by_cases hh : bJ (cutW own p.data.toList) p.data.toList = true
   ·have : bJ (cutW own p.data.toList) q = true:=by
     obtain ⟨y,hy,hhy⟩:=List.any_eq_true.1 hh
     refine List.any_eq_true.2 ⟨y,hy,?_⟩
     have hyn:=hG.ne hy
     have hyp : y.p ≠ p.data.toList:=fun h => by
      have:=(jv.1 hy).2
      rw [h] at this
      rw [cK.2 (.inl rfl)] at this;cases this
     unfold bF at hhy ⊢
     simp only [hyp,decide_false,Bool.false_and,Bool.false_or,Bool.and_eq_true] at hhy
     have hu : under q y.p = true:=by
      rcases cK.1 hw with h | h
      ·rw [h];exact hhy.1
      ·exact jU hp hyn h hhy.1
     rw [hu,hhy.2]
     simp
    rw [this];rfl
   ·have hB0 : getL B p.data.toList = none:=by
     cases hg : getL B p.data.toList with
     | none => rfl
     | some z => exact absurd (by rw [hg];simp at hh ⊢;exact hh) hcon
    have : getL B q = none:=by
     refine bB hq fun y hy hyp => ?_
     rcases cK.1 hw with h | h
     ·exact (eu hB0).2 y hy (hyp.trans h)
     ·obtain ⟨z,hz,hzp,_⟩:=hB.below hp y.p.length (Nat.le_refl _) hy (by rw [hyp];exact h)
      exact (eu hB0).2 z hz hzp
    rw [this]
    split <;> rfl
theorem Bz (own : List Ent) (p : List UInt8) : (cutW own p).length ≤ own.length:=List.length_filter_le _ _
theorem zy {own B : List Ent} {p : ByteArray} (hs : Sorted own) : (aM own B p).length ≤ own.length + p.size + 1 ∧ Sorted (aM own B p):=by
 have h1 : Sorted (cutW own p.data.toList):=List.Pairwise.filter _ hs
 have h2:=Bz own p.data.toList
 unfold aM
 split
 ·obtain ⟨h3,h4⟩:=mQ (mkE p 4).p.length (own:=cutW own p.data.toList) (e:=mkE p 4) (Nat.le_refl _) h1
  have : (mkE p 4).p.length = p.size:=by rw [ru];rfl
  exact ⟨by omega,h3⟩
 ·exact ⟨by omega,h1⟩
end Go.Proofs.YthfeoiffoeagkaaGreatDoor.PM
namespace Go.Proofs.YthfeoiffoeagkaaGreatDoor
open Go.RowKit PM Go.Sort
set_option linter.unusedVariables false
namespace PM
def dw (frm to : ByteArray) (o : List Ent) (M : List Ent) : List Ent:=M.foldl (fun o e => aF o (mvE frm to e)) o
def dQ (own B s : List Ent) (to : ByteArray) : List Ent:=if (getL s to.data.toList).isSome then aM own B to else own
def gq (own B s : List Ent) (frm to : ByteArray) : List Ent:=dw frm to (aM (dQ own B s to) B frm) (s.filter (inM frm.data.toList))
end PM
theorem EG (a s : List UInt8) : ∃ r,(r = [] ∨ ∃ x,r = 47 :: x) ∧ ∀ b : List UInt8,aB (b ++ 47 :: s) = b ++ r:=by
 rcases jf s with hf | ⟨x,y,rfl,hy⟩
 ·exact ⟨[],.inl rfl,fun b => by rw [aB,dS b s hf,List.append_nil]⟩
 ·refine ⟨47 :: x,.inr ⟨x,rfl⟩,fun b => ?_⟩
  rw [aB,show b ++ 47 :: (x ++ 47 :: y) = (b ++ 47 :: x) ++ 47 :: y by simp,dS _ y hy]
structure wG (B s : List Ent) (frm to : ByteArray) (pre o : List Ent) : Prop where
 good : PM.Good true o
 put : ∀ q,q ≠ [] → ∀ e ∈ pre,(mvE frm to e).p = q → seeL B o q = some (mvE frm to e)
 rest : ∀ q,q ≠ [] → (∀ e ∈ pre,(mvE frm to e).p ≠ q) → seeL B o q = if inW frm.data.toList q then none else if inW to.data.toList q then none else getL s q
section
variable {B own s : List Ent} {frm to : ByteArray} (hB : Right false B) (h : MvOK s frm to)
include h
theorem MvOK.JW : inW frm.data.toList to.data.toList = false:=by
 unfold inW
 rw [h.nund]
 simp [Ne.symm h.ne]
theorem MvOK.neTo {e : Ent} (hi : inM frm.data.toList e = true) : e.p ≠ to.data.toList:=fun hp => by
 have h1 : inW frm.data.toList e.p = true:=hi
 rw [hp,h.JW] at h1;cases h1
include hB
theorem FK {pre post o : List Ent} {e : Ent} (hM : s.filter (inM frm.data.toList) = pre ++ e :: post) (I : wG B s frm to pre o) : wG B s frm to (pre ++ [e]) (aF o (mvE frm to e)):=by
 have heM : e ∈ s.filter (inM frm.data.toList):=by rw [hM];simp
 obtain ⟨hes,hi⟩:=List.mem_filter.1 heM
 have hsM : Sorted (pre ++ e :: post):=by rw [← hM];exact List.Pairwise.filter _ h.right.sorted
 have hsM':=List.pairwise_append.1 hsM
 obtain ⟨r,hr,hr'⟩:=jR h.fne hi
 have hmp : (mvE frm to e).p = to.data.toList ++ r:=jl hr
 have hcl:=h.cl e hes (h.neTo hi) hi
 have hw : aI (mvE frm to e) false = 0:=uf (h.right.each e hes) rfl rfl rfl hcl
 have hmne : (mvE frm to e).p ≠ []:=dI hcl
 have hmem : ∀ e' ∈ pre,e' ∈ s ∧ inM frm.data.toList e' = true:=fun e' he' => List.mem_filter.1 (by rw [hM];simp [he'])
 have hfresh : ∀ e' ∈ pre,(mvE frm to e').p ≠ (mvE frm to e).p:=fun e' he' hp => by
  obtain ⟨r',hr1,_⟩:=jR h.fne (hmem e' he').2
  rw [hmp,jl hr1] at hp
  rw [List.append_cancel_left hp] at hr1
  exact iZ (hsM'.2.2 e' he' e (by simp)) (hr1.trans hr.symm)
 have hin : inW to.data.toList (mvE frm to e).p = true:=by
  rw [hmp]
  rcases hr' with rfl | ⟨x,rfl⟩
  ·exact cK.2 (.inl (by simp))
  ·exact cK.2 (.inr ((aX _ _ h.tne).2 ⟨x,rfl⟩))
 have hnone : seeL B o (mvE frm to e).p = none:=by
  rw [I.rest _ hmne hfresh,hin]
  split <;> rfl
 have hd : aB (mvE frm to e).p = [] ∨ ∃ d,seeL B o (aB (mvE frm to e).p) = some d ∧ d.kind = 2:=by
  rcases hr' with rfl | ⟨x,rfl⟩
  ·have hpt : (mvE frm to e).p = to.data.toList:=by rw [hmp];simp
   rw [hpt]
   rcases h.dir with g | ⟨d,hd,hdp,hdk⟩
   ·exact .inl g
   ·have hdn : aB to.data.toList ≠ []:=by rw [← hdp];exact h.right.ne hd
    have hsh:=dM h.tne
    refine .inr ⟨d,?_,hdk⟩
    rw [I.rest _ hdn (fun e' he' hp => by
     obtain ⟨r',hr1,_⟩:=jR h.fne (hmem e' he').2
     rw [jl hr1] at hp
     have:=congrArg List.length hp
     rw [List.length_append] at this;omega)]
    have h1 : inW frm.data.toList (aB to.data.toList) = false:=by
     cases hc : inW frm.data.toList (aB to.data.toList) with
     | false => rfl
     | true =>
      exfalso
      have hu:=fT h.tne hdn
      have:=h.nund
      rcases cK.1 hc with g | g
      ·rw [← g,hu] at this;cases this
      ·rw [jU hdn h.fne hu g] at this;cases this
    have h2 : inW to.data.toList (aB to.data.toList) = false:=by
     cases hc : inW to.data.toList (aB to.data.toList) with
     | false => rfl
     | true =>
      exfalso
      rcases cK.1 hc with g | g
      ·rw [g] at hsh;omega
      ·have:=iB g h.tne;omega
    rw [h1,h2]
    exact fO h.right.sorted hd hdp hdn
  ·obtain ⟨r2,hr2,hdo⟩:=EG [] x
   have hde : aB e.p = frm.data.toList ++ r2:=by rw [hr];exact hdo _
   have hdm : aB (mvE frm to e).p = to.data.toList ++ r2:=by rw [hmp];exact hdo _
   have hden : aB e.p ≠ []:=by rw [hde];intro h0;exact h.fne (List.append_eq_nil_iff.1 h0).1
   rcases h.right.dir e hes with g | ⟨d,hds,hdp,hdk⟩
   ·exact absurd g hden
   ·have hdr : d.p = frm.data.toList ++ r2:=hdp.trans hde
    have hdi : inM frm.data.toList d = true:=D9 h.fne hdr hr2
    have hdM : d ∈ pre ++ e :: post:=by rw [← hM];exact List.mem_filter.2 ⟨hds,hdi⟩
    have hlt : ltE d e:=by unfold ltE;rw [hdp];exact EF (h.right.ne hes) hden
    have hdpre : d ∈ pre:=by
     rcases List.mem_append.1 hdM with g | g
     ·exact g
     ·rcases List.mem_cons.1 g with rfl | g
      ·exact absurd rfl (iZ hlt)
      ·exact (ny hlt ((List.pairwise_cons.1 hsM'.2.1).1 d g)).elim
    have hpd : (mvE frm to d).p = aB (mvE frm to e).p:=by rw [hdm];exact jl hdr
    exact .inr ⟨mvE frm to d,I.put _ (by rw [hdm];intro h0;exact h.tne (List.append_eq_nil_iff.1 h0).1) d hdpre hpd,hdk⟩
 obtain ⟨hG,hsee⟩:=xE hB I.good hw hd (fun y hy => by rw [hnone] at hy;cases hy)
 refine ⟨hG,fun q hq e' he' hp => ?_,fun q hq hno => ?_⟩
 ·rcases List.mem_append.1 he' with g | g
  ·rw [hsee q hq,if_neg (by rw [← hp];exact hfresh e' g)]
   exact I.put q hq e' g hp
  ·rw [List.mem_singleton] at g
   subst g
   rw [hsee q hq,if_pos hp.symm]
 ·rw [hsee q hq,if_neg (fun g => hno e (by simp) g.symm)]
  exact I.rest q hq fun e' he' => hno e' (by simp [he'])
theorem xQ : ∀ (post pre o : List Ent),s.filter (inM frm.data.toList) = pre ++ post → wG B s frm to pre o → wG B s frm to (s.filter (inM frm.data.toList)) (dw frm to o post)
 | [],pre,o,hM,I => by rw [hM,List.append_nil];exact I
 | e :: post,pre,o,hM,I => xQ post (pre ++ [e]) _ (by rw [hM];simp) (FK hB h hM I)
theorem IV (hO : PM.Good true own) (hs : ∀ q,q ≠ [] → seeL B own q = getL s q) :
  PM.Good true (gq own B s frm to) ∧ ∀ l : List Ent,l.Perm (bK s frm to) → (l.Pairwise fun a b => ¬ cmp b.p a.p < 0) → ∀ q,q ≠ [] → seeL B (gq own B s frm to) q = getL l q:=by
 obtain ⟨a,ha,hap⟩:=h.src
 have hfc : clean frm.data.toList = true:=by rw [← hap];exact h.right.clean ha
 have e1 : PM.Good true (dQ own B s to) ∧ ∀ q,q ≠ [] → seeL B (dQ own B s to) q = if inW to.data.toList q then none else getL s q:=by
  unfold dQ
  by_cases hg : (getL s to.data.toList).isSome = true
  ·rw [if_pos hg]
   obtain ⟨g1,g2⟩:=wT hB hO h.tocl (by
    rcases h.dir with g | ⟨d,hd,hdp,hdk⟩
    ·exact .inl g
    ·have hdn : aB to.data.toList ≠ []:=by rw [← hdp];exact h.right.ne hd
     exact .inr ⟨d,by rw [hs _ hdn];exact fO h.right.sorted hd hdp hdn,hdk⟩)
   exact ⟨g1,fun q hq => by rw [g2 q hq,hs q hq]⟩
  ·rw [if_neg hg]
   refine ⟨hO,fun q hq => ?_⟩
   rw [hs q hq]
   cases hw : inW to.data.toList q with
   | false => rfl
   | true =>
    rw [if_pos rfl]
    refine bB hq fun x hx hp => ?_
    rcases cK.1 hw with g | g
    ·apply hg
     rw [fO h.right.sorted hx (hp.trans g) h.tne];rfl
    ·have:=h.free x hx
     rw [hp,g] at this;cases this
 obtain ⟨G1,S1⟩:=e1
 have e2:=wT (p:=frm) hB G1 hfc (by
  rcases h.right.dir a ha with g | ⟨d,hd,hdp,hdk⟩
  ·rw [hap] at g;exact .inl g
  ·rw [hap] at hdp
   have hdn : aB frm.data.toList ≠ []:=by rw [← hdp];exact h.right.ne hd
   refine .inr ⟨d,?_,hdk⟩
   rw [S1 _ hdn]
   have : inW to.data.toList (aB frm.data.toList) = false:=by
    cases hc : inW to.data.toList (aB frm.data.toList) with
    | false => rfl
    | true =>
     exfalso
     have hu:=fT h.fne hdn
     have hnu:=h.Ga
     rcases cK.1 hc with g | g
     ·rw [← g,hu] at hnu;cases hnu
     ·rw [jU hdn h.tne hu g] at hnu;cases hnu
   rw [this]
   exact fO h.right.sorted hd hdp hdn)
 obtain ⟨G2,S2⟩:=e2
 have I0 : wG B s frm to [] (aM (dQ own B s to) B frm):=⟨G2,fun q _ e he => by simp at he,fun q hq _ => by rw [S2 q hq,S1 q hq]⟩
 have I:=xQ hB h (s.filter (inM frm.data.toList)) [] _ rfl I0
 refine ⟨I.good,fun l hp hps q hq => ?_⟩
 have hR:=h.yQ hp hps
 show seeL B (dw frm to (aM (dQ own B s to) B frm) (s.filter (inM frm.data.toList))) q = _
 by_cases hex : ∃ e ∈ s.filter (inM frm.data.toList),(mvE frm to e).p = q
 ·obtain ⟨e,he,heq⟩:=hex
  rw [I.put q hq e he heq]
  obtain ⟨hes,hi⟩:=List.mem_filter.1 he
  exact (fO hR.sorted (h.goes hp hes hi) heq hq).symm
 ·have hno : ∀ e ∈ s.filter (inM frm.data.toList),(mvE frm to e).p ≠ q:=fun e he hp => hex ⟨e,he,hp⟩
  rw [I.rest q hq hno]
  have hback : ∀ x ∈ l,x.p = q → x ∈ s ∧ x.p ≠ to.data.toList ∧ inM frm.data.toList x = false:=fun x hx hxp => by
   obtain ⟨y,hy,hyT,hxy⟩:=(h.mem hp).1 hx
   cases hc : inM frm.data.toList y with
   | true =>
    rw [mvF,hc] at hxy
    exact absurd (by rw [← hxp,← hxy];rfl) (hno y (List.mem_filter.2 ⟨hy,hc⟩))
   | false =>
    rw [mvF,hc] at hxy
    have hxy : y = x:=hxy
    subst hxy
    exact ⟨hy,hyT,hc⟩
  cases hw1 : inW frm.data.toList q with
  | true =>
   rw [if_pos rfl]
   refine (bB hq fun x hx hxp => ?_).symm
   have:=(hback x hx hxp).2.2
   have h2 : inM frm.data.toList x = inW frm.data.toList x.p:=rfl
   rw [h2,hxp,hw1] at this;cases this
  | false =>
   rw [if_neg (by decide)]
   cases hw2 : inW to.data.toList q with
   | true =>
    rw [if_pos rfl]
    refine (bB hq fun x hx hxp => ?_).symm
    obtain ⟨hxs,hxT,_⟩:=hback x hx hxp
    rcases cK.1 hw2 with g | g
    ·exact hxT (hxp.trans g)
    ·have:=h.free x hxs
     rw [hxp,g] at this;cases this
   | false =>
    rw [if_neg (by decide)]
    cases hg : getL s q with
    | none => exact (bB hq fun x hx hxp => (eu hg).2 x (hback x hx hxp).1 hxp).symm
    | some z =>
     obtain ⟨hz,hzp⟩:=aR hq hg
     have h2 : inM frm.data.toList z = inW frm.data.toList z.p:=rfl
     refine (fO hR.sorted (h.stays hp hz (fun hT => ?_) (by rw [h2,hzp,hw1])) hzp hq).symm
     rw [← hzp,hT,cK.2 (.inl rfl)] at hw2;cases hw2
end
theorem sW {t : List Ent} {e : Ent} (h : aP t e = 0) : Right false t ∧ aI e false = 0 ∧ Right false (putL t e):=by
 have ha : gL t e = 0:=by
  by_cases ha : gL t e = 0
  ·exact ha
  ·rw [rY ha] at h;exact absurd h ha
 obtain ⟨h1,h2,h3⟩:=mX ha
 refine ⟨h1,h2,h1.put h2 h3 (fun x hx hp => ?_) (fun hn => ?_)⟩
 ·rw [rU ha hx hp] at h
  split at h
  ·rename_i hk
   rw [Bool.eq_iff_iff] at hk
   simpa using hk
  ·cases h
 ·rw [wo ha hn] at h
  split at h
  ·cases h
  ·have:=h1.len;omega
/-! the union whole -/
theorem vv {own : List Ent} {lows : List (List Ent)} {l : List Ent} (h0 : (ay lows).1 = 0) (hO : PM.Good true own) (hlen : own.length ≤ 80) (hl : Right false l) (h : ∀ q,q ≠ [] → seeL (ay lows).2 own q = getL l q) : ay (own :: lows) = (0,l):=by
 have hB:=iX h0
 have he : eP own (ay lows).2 = l:=II (jG hO.sorted hB.sorted) hl.sorted (fun e he => (sK hO hB).ne he) (fun e he => hl.ne he) fun q hq => by rw [mJ hO.sorted hB.sorted hq];exact h q hq
 have hz : dP own (ay lows).2 = 0:=jW.2 ⟨hO.right hlen,hB,by rw [← uL hO.sorted hB.sorted,he];exact hl.len⟩
 rw [lg h0,hz,if_pos rfl,he]
theorem pK {up : List Ent} {lows : List (List Ent)} (h : (ay (up :: lows)).1 = 0) : (ay lows).1 = 0 ∧ Right true up ∧ Right false (ay lows).2 ∧ Right false (ay (up :: lows)).2 ∧ ∀ q,q ≠ [] → seeL (ay lows).2 up q = getL (ay (up :: lows)).2 q:=by
 obtain ⟨h1,h2,h3⟩:=jJ h
 obtain ⟨g1,g2,g3⟩:=jW.1 h2
 refine ⟨h1,g1,g2,iX h,fun q hq => ?_⟩
 rw [h3,mJ g1.sorted g2.sorted hq]
theorem yV {t : List Ent} {e : Ent} (h : aP t e = 0) : bD t (aB e.p) = 0 ∧ ∀ x ∈ t,x.p = e.p → (x.kind = 2 ↔ e.kind = 2):=by
 unfold aP at h
 split at h
 ·rename_i ha
  refine ⟨(mX ha).2.2,fun x hx hp => ?_⟩
  split at h
  ·cases h
  ·rename_i g
   have : (x.kind == 2) = (e.kind == 2):=Decidable.byContradiction fun hc => g ⟨x,hx,hp,hc⟩
   rw [Bool.eq_iff_iff] at this
   simpa using this
 ·rename_i ha;exact absurd h ha
theorem FW {up s : List Ent} {lows : List (List Ent)} {e : Ent} (hm : ay (up :: lows) = (0,s)) (hp : aP s e = 0) :
  PM.Good true (aF up e) ∧ ((aF up e).length ≤ 80 → ay (aF up e :: lows) = (0,putL s e)):=by
 obtain ⟨h1,hU,hB,hS,hsee⟩:=pK (up:=up) (lows:=lows) (by rw [hm])
 rw [hm] at hS hsee
 obtain ⟨_,hw,hR⟩:=sW hp
 obtain ⟨hnd,hk⟩:=yV hp
 have hne:=dI (bA hw)
 obtain ⟨hG,hs'⟩:=xE hB hU.good hw (by
  rcases jI.1 hnd with g | ⟨d,_,_,hdk,hg⟩
  ·exact .inl g
  ·by_cases h0 : aB e.p = []
   ·exact .inl h0
   ·exact .inr ⟨d,by rw [hsee _ h0];exact hg,hdk⟩) (fun y hy => by
  rw [hsee _ hne] at hy
  obtain ⟨hy1,hy2⟩:=aR hne hy
  exact hk y hy1 hy2)
 refine ⟨hG,fun hlen => vv h1 hG hlen hR fun q hq => ?_⟩
 rw [hs' q hq,get_put hS.sorted hq,hsee q hq]
theorem zL {up s : List Ent} {lows : List (List Ent)} {p : ByteArray} (hm : ay (up :: lows) = (0,s)) (hp : bC s p.data.toList = 0) :
  PM.Good true (aM up (ay lows).2 p) ∧ ((aM up (ay lows).2 p).length ≤ 80 → ay (aM up (ay lows).2 p :: lows) = (0,remL s p.data.toList)):=by
 obtain ⟨h1,hU,hB,hS,hsee⟩:=pK (up:=up) (lows:=lows) (by rw [hm])
 rw [hm] at hS hsee
 obtain ⟨_,⟨a,ha,hap⟩,hfr⟩:=pU hp
 have hc : clean p.data.toList = true:=by rw [← hap];exact hS.clean ha
 have hne:=dI hc
 obtain ⟨hG,hs'⟩:=wT (p:=p) hB hU.good hc (by
  rcases hS.dir a ha with g | ⟨d,hd,hdp,hdk⟩
  ·rw [hap] at g;exact .inl g
  ·rw [hap] at hdp
   have hdn : aB p.data.toList ≠ []:=by rw [← hdp];exact hS.ne hd
   exact .inr ⟨d,by rw [hsee _ hdn];exact fO hS.sorted hd hdp hdn,hdk⟩)
 refine ⟨hG,fun hlen => vv h1 hG hlen (hS.rem hne hfr) fun q hq => ?_⟩
 rw [hs' q hq,hsee q hq]
 cases hw : inW p.data.toList q with
 | true =>
  rw [if_pos rfl]
  refine (bB hq fun x hx hxp => ?_).symm
  obtain ⟨hx1,hx2⟩:=eZ.1 hx
  rcases cK.1 hw with g | g
  ·exact hx2 (hxp.trans g)
  ·have:=hfr x hx1
   rw [hxp,g] at this;cases this
 | false =>
  rw [if_neg (by decide)]
  refine (get_filter hS.sorted hq fun y hy hyp => ?_).symm
  have : y.p ≠ p.data.toList:=fun hh => by rw [← hyp,hh,cK.2 (.inl rfl)] at hw;cases hw
  simp [this]
theorem wu {up s : List Ent} {lows : List (List Ent)} {frm to : ByteArray} (hm : ay (up :: lows) = (0,s)) (hp : bf s frm to = 0) (hne : frm.data.toList ≠ to.data.toList) :
  PM.Good true (gq up (ay lows).2 s frm to) ∧ ((gq up (ay lows).2 s frm to).length ≤ 80 → ∀ l : List Ent,l.Perm (bK s frm to) → (l.Pairwise fun a b => ¬ cmp b.p a.p < 0) → ay (gq up (ay lows).2 s frm to :: lows) = (0,l)):=by
 obtain ⟨h1,hU,hB,hS,hsee⟩:=pK (up:=up) (lows:=lows) (by rw [hm])
 rw [hm] at hS hsee
 have hok:=tH hp hne
 obtain ⟨hG,hs'⟩:=IV hB hok hU.good hsee
 exact ⟨hG,fun hlen l hpm hps => vv h1 hG hlen (hok.yQ hpm hps) (hs' l hpm hps)⟩
end Go.Proofs.YthfeoiffoeagkaaGreatDoor
