/-
  Plain mathematics of locks: what is wrong with a list of them, what clashes, which bytes they have, what is left without some, and how they are joined; nothing of a program stands in it.
-/
import Derived.WalkKit
namespace Go.Proofs.YthfeoiffoeagkaaGreatDoor.LK
structure Lk where
 o:Int
 f:Int
 t:Int
 a:Bool
deriving DecidableEq,Inhabited
namespace KM
def okK (x:Lk):Prop:=0≤x.o∧x.o<4∧0≤x.f∧x.f<x.t∧x.t≤1000
instance (x:Lk):Decidable (okK x):=by unfold okK;infer_instance
def clash (x y:Lk):Bool:=decide (x.o≠y.o) && (x.a || y.a) && decide (x.f<y.t) && decide (y.f<x.t)
def rise (y x:Lk):Bool:=if y.o≠x.o then decide (y.o<x.o) else decide (y.t<x.f) || decide (y.t=x.f) && decide (y.a≠x.a)
def jT (ahead:List Lk) (x:Lk):Bool :=
 match ahead.getLast? with
 | none=>false
 | some y => !rise y x
def gF (ahead:List Lk) (x:Lk):Int :=
 if ¬ okK x then 3 else if jT ahead x=true then 2 else if ahead.any (clash x) then 8 else 0
def gL (ahead:List Lk):List Lk→Int × Int
 | []=>(0,0)
 | x::r=>if gF ahead x=0 then gL (ahead++[x]) r else (gF ahead x,ahead.length)
def bC (l:List Lk):Int × Int:=if 40<l.length then (5,0) else gL [] l
theorem Ch {l:List Lk} {k:Nat} {x:Lk} (h:l[k]?=some x) :
  gL (l.take k) (l.drop k)=if gF (l.take k) x=0 then gL (l.take (k+1)) (l.drop (k+1)) else (gF (l.take k) x,k):=by
 obtain ⟨h1,h2⟩:=List.getElem?_eq_some_iff.1 h
 rw [List.drop_eq_getElem_cons h1,gL,h2,List.take_succ_eq_append_getElem h1,h2,List.length_take,Nat.min_eq_left (Nat.le_of_lt h1)]
theorem El {l:List Lk} {k:Nat} (h:l.length≤k):gL (l.take k) (l.drop k)=(0,0):=by
 rw [List.drop_of_length_le h];rfl
def R (a b:Lk):Prop:=a.o<b.o∨(a.o=b.o∧(a.t<b.f∨(a.t=b.f∧a.a≠b.a)))
theorem nN (a b:Lk):rise a b=true↔R a b:=by
 unfold rise R
 by_cases h:a.o=b.o
 ·rw [if_neg (by simpa using h)]
  simp [h]
 ·rw [if_pos h]
  simp [h]
theorem R.trans {a b c:Lk} (hb:okK b) (h1:R a b) (h2:R b c):R a c:=by
 obtain ⟨_,_,_,hb,_⟩:=hb
 unfold R at *
 rcases h1 with h1 | ⟨h1,h3⟩ <;> rcases h2 with h2 | ⟨h2,h4⟩
 ·left;omega
 ·left;omega
 ·left;omega
 ·right
  refine ⟨by omega,.inl ?_⟩
  rcases h3 with h3 | ⟨h3,_⟩ <;> rcases h4 with h4 | ⟨h4,_⟩ <;> omega
def Has (l:List Lk) (o k:Int) (b:Bool):Prop:=∃ y∈l,y.o=o∧y.f≤k∧k<y.t∧y.a=b
def AU (l:List Lk):Prop:=∀ o o' k b b',o≠o'→Has l o k b→Has l o' k b'→b=false∧b'=false
structure dW (l:List Lk):Prop where
 ok:∀ x∈l,okK x
 rises:l.Pairwise R
 no:AU l
theorem qQ {x y:Lk} (hx:okK x) (hy:okK y):clash x y=true↔x.o≠y.o∧(x.a=true∨y.a=true)∧∃ k,x.f≤k∧k<x.t∧y.f≤k∧k<y.t:=by
 obtain ⟨_,_,_,h1,_⟩:=hx
 obtain ⟨_,_,_,h2,_⟩:=hy
 simp only [clash,Bool.and_eq_true,decide_eq_true_eq,Bool.or_eq_true]
 constructor
 ·rintro ⟨⟨⟨a,b⟩,c⟩,d⟩
  refine ⟨a,b,?_⟩
  by_cases h:x.f≤y.f
  ·exact ⟨y.f,h,d,Int.le_refl _,h2⟩
  ·exact ⟨x.f,Int.le_refl _,h1,by omega,c⟩
 ·rintro ⟨a,b,k,_,_,_,_⟩
  exact ⟨⟨⟨a,b⟩,by omega⟩,by omega⟩
theorem vk (x y:Lk):clash x y=clash y x:=by
 rw [Bool.eq_iff_iff]
 simp only [clash,Bool.and_eq_true,decide_eq_true_eq,Bool.or_eq_true]
 constructor
 ·rintro ⟨⟨⟨a,b⟩,c⟩,d⟩;exact ⟨⟨⟨fun e=>a e.symm,b.symm⟩,d⟩,c⟩
 ·rintro ⟨⟨⟨a,b⟩,c⟩,d⟩;exact ⟨⟨⟨fun e=>a e.symm,b.symm⟩,d⟩,c⟩
theorem mE {l:List Lk} (hok:∀ x∈l,okK x):AU l↔∀ x∈l,∀ y∈l,clash x y=false:=by
 constructor
 ·intro h x hx y hy
  rw [← Bool.not_eq_true]
  intro hc
  obtain ⟨h1,h2,k,h3,h4,h5,h6⟩:=(qQ (hok x hx) (hok y hy)).1 hc
  obtain ⟨e1,e2⟩:=h x.o y.o k x.a y.a h1 ⟨x,hx,rfl,h3,h4,rfl⟩ ⟨y,hy,rfl,h5,h6,rfl⟩
  rcases h2 with h2 | h2 <;> simp_all
 ·rintro h o o' k b b' hne ⟨x,hx,rfl,h1,h2,rfl⟩ ⟨y,hy,rfl,h3,h4,rfl⟩
  have:=h x hx y hy
  rw [← Bool.not_eq_true] at this
  by_cases ha:x.a=true∨y.a=true
  ·exact absurd ((qQ (hok x hx) (hok y hy)).2 ⟨hne,ha,k,h1,h2,h3,h4⟩) this
  ·simp only [not_or,Bool.not_eq_true] at ha;exact ha
theorem yP {rest:List Lk}:∀ {ahead:List Lk},dW ahead→((gL ahead rest).1=0↔dW (ahead++rest)):=by
 induction rest with
 | nil=>intro ahead h;simp [gL,h]
 | cons x r ih =>
  intro ahead h
  have hw:gF ahead x=0↔dW (ahead++[x]):=by
   unfold gF
   constructor
   ·intro hh
    split at hh
    ·cases hh
    ·rename_i hx
     have hx:=Decidable.not_not.1 hx
     split at hh
     ·cases hh
     ·rename_i hl
      split at hh
      ·cases hh
      ·rename_i hc
       rw [Bool.not_eq_true] at hc
       have hok:∀ y∈ahead++[x],okK y:=by
        intro y hy
        rcases List.mem_append.1 hy with hy | hy
        ·exact h.ok y hy
        ·simp at hy;rw [hy];exact hx
       have hR:∀ y∈ahead,R y x:=by
        intro y hy
        cases hlast:ahead.getLast? with
        | none=>rw [List.getLast?_eq_none_iff] at hlast;subst hlast;simp at hy
        | some z =>
         have hz:R z x:=(nN _ _).1 (by simpa [jT,hlast] using hl)
         obtain ⟨pre,rfl⟩:=List.getLast?_eq_some_iff.1 hlast
         rcases List.mem_append.1 hy with hy | hy
         ·have:=(List.pairwise_append.1 h.rises).2.2 y hy z (by simp)
          exact this.trans (h.ok z (by simp)) hz
         ·simp at hy;rw [hy];exact hz
       refine ⟨hok,List.pairwise_append.2 ⟨h.rises,by simp,fun a ha b hb=>by simp at hb;rw [hb];exact hR a ha⟩,(mE hok).2 ?_⟩
       have hc':∀ y∈ahead,clash x y=false:=fun y hy=>by
        have:=List.any_eq_false.1 hc y hy
        simpa using this
       intro a ha b hb
       rcases List.mem_append.1 ha with ha | ha <;> rcases List.mem_append.1 hb with hb | hb
       ·exact (mE h.ok).1 h.no a ha b hb
       ·simp at hb;rw [hb,vk];exact hc' a ha
       ·simp at ha;rw [ha];exact hc' b hb
       ·simp at ha hb;rw [ha,hb];simp [clash]
   ·intro hr
    have hx:okK x:=hr.ok x (by simp)
    rw [if_neg (by simpa using hx)]
    have hR:=(List.pairwise_append.1 hr.rises).2.2
    rw [if_neg,if_neg]
    ·rw [Bool.not_eq_true,List.any_eq_false]
     intro y hy
     rw [Bool.not_eq_true]
     exact (mE hr.ok).1 hr.no x (by simp) y (by simp [hy])
    ·unfold jT
     split
     ·simp
     ·rename_i z hlast
      have hz:z∈ahead:=List.mem_of_getLast? hlast
      have:=(nN z x).2 (hR z hz x (by simp))
      simp [this]
  rw [gL]
  by_cases h0:gF ahead x=0
  ·rw [if_pos h0,ih (hw.1 h0)];simp
  ·rw [if_neg h0]
   refine ⟨fun hh=>absurd hh h0,fun hh=>absurd (hw.2 ?_) h0⟩
   have e:ahead++x::r=(ahead++[x])++r:=by simp
   rw [e] at hh
   refine ⟨fun y hy=>hh.ok y (by simp at hy ⊢;rcases hy with hy | hy <;> simp [hy]),(List.pairwise_append.1 hh.rises).1,?_⟩
   rintro o o' k b b' hne ⟨y,hy,hy'⟩ ⟨z,hz,hz'⟩
   exact hh.no o o' k b b' hne ⟨y,List.mem_append_left _ hy,hy'⟩ ⟨z,List.mem_append_left _ hz,hz'⟩
theorem zy:dW []:=⟨by simp,by simp,by rintro o o' k b b' _ ⟨y,hy,_⟩;simp at hy⟩
theorem vv {l:List Lk}:(bC l).1=0↔l.length≤40∧dW l:=by
 unfold bC
 split
 ·rename_i h;simp;omega
 ·rename_i h
  rw [yP zy]
  simp;omega
theorem ru (x:Lk):bC [x]=if okK x then (0,0) else (3,0):=by
 by_cases h:okK x <;> simp [bC,gL,gF,jT,h]
/-! ### Without -/
def gH (y:Lk) (f t:Int):List Lk:=if f<t then [⟨y.o,f,t,y.a⟩] else []
def gP (x y:Lk):List Lk:=if y.o≠x.o then gH y y.f y.t else gH y y.f (min y.t x.f)++gH y (max y.f x.t) y.t
def aN (l:List Lk) (x:Lk):List Lk:=l.flatMap (gP x)
theorem jN {y z:Lk} {f t:Int}:z∈gH y f t↔f<t∧z=⟨y.o,f,t,y.a⟩:=by
 unfold gH
 split <;> simp [*]
theorem kP {x y z:Lk} (h:z∈gP x y):z.o=y.o∧y.f≤z.f∧z.f<z.t∧z.t≤y.t∧z.a=y.a∧(y.o=x.o→z.t≤x.f∨x.t≤z.f):=by
 unfold gP at h
 split at h
 ·rename_i hne
  obtain ⟨h1,rfl⟩:=jN.1 h
  exact ⟨rfl,Int.le_refl _,h1,Int.le_refl _,rfl,fun e=>absurd e hne⟩
 ·rcases List.mem_append.1 h with h | h
  ·obtain ⟨h1,rfl⟩:=jN.1 h
   simp only at *
   exact ⟨trivial,Int.le_refl _,h1,by omega,trivial,fun _=>.inl (by omega)⟩
  ·obtain ⟨h1,rfl⟩:=jN.1 h
   simp only at *
   exact ⟨trivial,by omega,h1,Int.le_refl _,trivial,fun _=>.inr (by omega)⟩
theorem Fg {x y:Lk} (k:Int) (h1:y.f≤k) (h2:k<y.t) (h3:y.o=x.o→k<x.f∨x.t≤k):∃ z∈gP x y,z.f≤k∧k<z.t:=by
 unfold gP
 split
 ·exact ⟨_,jN.2 ⟨by omega,rfl⟩,h1,h2⟩
 ·rename_i h
  rcases h3 (Decidable.not_not.1 h) with h3 | h3
  ·exact ⟨_,List.mem_append_left _ (jN.2 ⟨by omega,rfl⟩),h1,by simp only;omega⟩
  ·exact ⟨_,List.mem_append_right _ (jN.2 ⟨by omega,rfl⟩),by simp only;omega,h2⟩
theorem mo (l:List Lk) (x:Lk) (o k:Int) (b:Bool):Has (aN l x) o k b↔Has l o k b∧¬ (o=x.o∧x.f≤k∧k<x.t):=by
 constructor
 ·rintro ⟨z,hz,rfl,h1,h2,rfl⟩
  obtain ⟨y,hy,hz⟩:=List.mem_flatMap.1 hz
  obtain ⟨e1,e2,e3,e4,e5,e6⟩:=kP hz
  refine ⟨⟨y,hy,e1.symm,by omega,by omega,e5.symm⟩,?_⟩
  rintro ⟨g1,g2,g3⟩
  rcases e6 (e1.symm.trans g1) with h | h <;> omega
 ·rintro ⟨⟨y,hy,rfl,h1,h2,rfl⟩,hn⟩
  obtain ⟨z,hz,h3,h4⟩:=Fg (x:=x) k h1 h2 (fun e=>by
   rcases Int.lt_or_le k x.f with h | h
   ·exact .inl h
   ·rcases Int.lt_or_le k x.t with h' | h'
    ·exact absurd ⟨e,h,h'⟩ hn
    ·exact .inr h')
  obtain ⟨e1,e2,e3,e4,e5,e6⟩:=kP hz
  exact ⟨z,List.mem_flatMap.2 ⟨y,hy,hz⟩,e1,h3,h4,e5⟩
theorem qL {l:List Lk} (h:dW l) {x:Lk} (hx:okK x):dW (aN l x):=by
 obtain ⟨_,_,_,hx,_⟩:=hx
 refine ⟨fun z hz=>?_,?_,?_⟩
 ·obtain ⟨y,hy,hz⟩:=List.mem_flatMap.1 hz
  obtain ⟨e1,e2,e3,e4,e5,e6⟩:=kP hz
  obtain ⟨g1,g2,g3,g4,g5⟩:=h.ok y hy
  exact ⟨by omega,by omega,by omega,by omega,by omega⟩
 ·refine List.pairwise_flatMap.2 ⟨fun y hy=>?_,?_⟩
  ·unfold gP
   split
   ·unfold gH;split <;> simp
   ·refine List.pairwise_append.2 ⟨by unfold gH;split <;> simp,by unfold gH;split <;> simp,fun a ha b hb=>?_⟩
    obtain ⟨h1,rfl⟩:=jN.1 ha
    obtain ⟨h2,rfl⟩:=jN.1 hb
    exact .inr ⟨rfl,.inl (by simp only;omega)⟩
  ·refine h.rises.imp ?_
   intro a b hR u hu v hv
   obtain ⟨e1,e2,e3,e4,e5,_⟩:=kP hu
   obtain ⟨g1,g2,g3,g4,g5,_⟩:=kP hv
   unfold R at *
   rcases hR with h1 | ⟨h1,h2 | ⟨h2,h3⟩⟩
   ·left;omega
   ·right;exact ⟨by omega,.inl (by omega)⟩
   ·right
    refine ⟨by omega,?_⟩
    rw [e5,g5]
    by_cases hq:u.t<v.f
    ·exact .inl hq
    ·exact .inr ⟨by omega,h3⟩
 ·intro o o' k b b' hne h1 h2
  exact h.no o o' k b b' hne ((mo l x o k b).1 h1).1 ((mo l x o' k b').1 h2).1
/-! ### Joined -/
def S (a b:Lk):Prop:=a.o<b.o∨(a.o=b.o∧a.t≤b.f)
def dR (out:List Lk) (x:Lk):List Lk :=
 match out.getLast? with
 | none=>out++[x]
 | some y=>if rise y x then out++[x] else out.set (out.length-1) { y with t:=x.t }
theorem R.s {a b:Lk} (h:R a b):S a b:=by
 unfold R S at *
 rcases h with h | ⟨h,h1 | ⟨h1,_⟩⟩
 ·exact .inl h
 ·exact .inr ⟨h,by omega⟩
 ·exact .inr ⟨h,by omega⟩
theorem zF (pre:List Lk) (y z:Lk):(pre++[y]).set ((pre++[y]).length-1) z=pre++[z]:=by
 simp
structure Joined (out l:List Lk):Prop where
 ok:∀ x∈out,okK x
 rises:out.Pairwise R
 has:∀ o k b,Has out o k b↔Has l o k b
 len:out.length≤l.length
theorem iq (l m:List Lk) (o k:Int) (b:Bool):Has (l++m) o k b↔Has l o k b∨Has m o k b:=by
 constructor
 ·rintro ⟨y,hy,h⟩
  rcases List.mem_append.1 hy with hy | hy
  ·exact .inl ⟨y,hy,h⟩
  ·exact .inr ⟨y,hy,h⟩
 ·rintro (⟨y,hy,h⟩ | ⟨y,hy,h⟩)
  ·exact ⟨y,List.mem_append_left _ hy,h⟩
  ·exact ⟨y,List.mem_append_right _ hy,h⟩
theorem kN (x:Lk) (o k:Int) (b:Bool):Has [x] o k b↔x.o=o∧x.f≤k∧k<x.t∧x.a=b:=by
 constructor
 ·rintro ⟨y,hy,h⟩;simp at hy;rw [← hy];exact h
 ·intro h;exact ⟨x,by simp,h⟩
theorem ze {out l:List Lk} {x:Lk} (h:Joined out l) (hx:okK x) (hs:∀ y∈out,S y x):Joined (dR out x) (l++[x]):=by
 unfold dR
 cases hlast:out.getLast? with
 | none =>
  rw [List.getLast?_eq_none_iff] at hlast
  subst hlast
  simp only [List.nil_append]
  refine ⟨by simpa using hx,by simp,fun o k b=>?_,by simp⟩
  rw [iq,← h.has]
  constructor
  ·exact .inr
  ·rintro (⟨y,hy,_⟩ | h)
   ·simp at hy
   ·exact h
 | some y =>
  obtain ⟨pre,rfl⟩:=List.getLast?_eq_some_iff.1 hlast
  have hpre:=List.pairwise_append.1 h.rises
  have hy:=h.ok y (by simp)
  simp only
  by_cases hr:rise y x=true
  ·rw [if_pos hr]
   have hyx:=(nN _ _).1 hr
   refine ⟨?_,?_,fun o k b=>?_,by simp;have:=h.len;simp at this;omega⟩
   ·intro z hz
    rcases List.mem_append.1 hz with hz | hz
    ·exact h.ok z hz
    ·simp at hz;rw [hz];exact hx
   ·refine List.pairwise_append.2 ⟨h.rises,by simp,fun a ha b hb=>?_⟩
    simp at hb;subst hb
    rcases List.mem_append.1 ha with ha | ha
    ·exact (hpre.2.2 a ha y (by simp)).trans hy hyx
    ·simp at ha;rw [ha];exact hyx
   ·rw [iq _ [x],iq _ [x],h.has]
  ·rw [if_neg hr,zF]
   have hnr:¬ R y x:=fun e=>hr ((nN _ _).2 e)
   have hS:=hs y (by simp)
   have e:y.o=x.o∧y.t=x.f∧y.a=x.a:=by
    unfold R at hnr
    unfold S at hS
    rcases hS with hS | ⟨h1,h2⟩
    ·exact absurd (.inl hS) hnr
    ·have h3:y.t=x.f:=by
      rcases Int.lt_or_le y.t x.f with h | h
      ·exact absurd (.inr ⟨h1,.inl h⟩) hnr
      ·omega
     refine ⟨h1,h3,?_⟩
     exact Decidable.byContradiction fun hc=>hnr (.inr ⟨h1,.inr ⟨h3,hc⟩⟩)
   obtain ⟨e1,e2,e3⟩:=e
   obtain ⟨x1,x2,x3,x4,x5⟩:=hx
   obtain ⟨y1,y2,y3,y4,y5⟩:=hy
   refine ⟨?_,?_,fun o k b=>?_,by simp;have:=h.len;simp at this;omega⟩
   ·intro z hz
    rcases List.mem_append.1 hz with hz | hz
    ·exact h.ok z (by simp [hz])
    ·simp at hz;rw [hz];exact ⟨y1,y2,y3,by simp only;omega,x5⟩
   ·refine List.pairwise_append.2 ⟨hpre.1,by simp,fun a ha b hb=>?_⟩
    simp at hb;subst hb
    have:=hpre.2.2 a ha y (by simp)
    exact this
   ·rw [iq _ [x],← h.has,iq,iq,kN,kN,kN,or_assoc]
    refine or_congr Iff.rfl ?_
    simp only
    rw [← e1,← e3]
    constructor
    ·rintro ⟨g1,g2,g3,g4⟩
     by_cases hk:k<y.t
     ·exact .inl ⟨g1,g2,hk,g4⟩
     ·exact .inr ⟨g1,by omega,g3,g4⟩
    ·rintro (⟨g1,g2,g3,g4⟩ | ⟨g1,g2,g3,g4⟩)
     ·exact ⟨g1,g2,by omega,g4⟩
     ·exact ⟨g1,by omega,g3,g4⟩
theorem IG {out:List Lk} {x z:Lk} (hz:∀ y∈out,S y z) (hxz:S x z) (hs:∀ y∈out,S y x):∀ y∈dR out x,S y z:=by
 unfold dR
 cases hlast:out.getLast? with
 | none =>
  intro y hy
  rcases List.mem_append.1 hy with hy | hy
  ·exact hz y hy
  ·simp at hy;rw [hy];exact hxz
 | some y =>
  simp only
  obtain ⟨pre,rfl⟩:=List.getLast?_eq_some_iff.1 hlast
  split
  ·intro u hu
   rcases List.mem_append.1 hu with hu | hu
   ·exact hz u hu
   ·simp at hu;rw [hu];exact hxz
  ·rename_i hr
   rw [zF]
   intro u hu
   rcases List.mem_append.1 hu with hu | hu
   ·exact hz u (by simp [hu])
   ·simp at hu
    subst hu
    have hS:=hs y (by simp)
    have hnr:¬ R y x:=fun e=>hr ((nN _ _).2 e)
    unfold S R at *
    rcases hS with h | ⟨h,_⟩
    ·exact absurd (.inl h) hnr
    ·simp only;rw [h];exact hxz
theorem tN:∀ (rest out l:List Lk),Joined out l→(∀ x∈rest,okK x)→rest.Pairwise S→(∀ y∈out,∀ x∈rest,S y x)→Joined (rest.foldl dR out) (l++rest)
 | [],out,l,h,_,_,_=>by simpa using h
 | x::r,out,l,h,hok,hp,hs=>by
  obtain ⟨hp1,hp2⟩:=List.pairwise_cons.1 hp
  have:=tN r (dR out x) (l++[x]) (ze h (hok x (by simp)) (fun y hy=>hs y hy x (by simp))) (fun y hy=>hok y (by simp [hy])) hp2
   (fun y hy z hz=>IG (fun u hu=>hs u hu z (by simp [hz])) (hp1 z hz) (fun u hu=>hs u hu x (by simp)) y hy)
  simpa using this
def joinL (l:List Lk):List Lk:=l.foldl dR []
theorem Ae {l:List Lk} (hok:∀ x∈l,okK x) (hp:l.Pairwise S):Joined (joinL l) l:=by
 have:=tN l [] [] ⟨by simp,by simp,fun _ _ _=>Iff.rfl,by simp⟩ hok hp (by simp)
 rw [List.nil_append] at this
 exact this
def cmpI (a b:Int):Int:=if a<b then -1 else if b<a then 1 else 0
def cmpK (a b:Lk):Int:=if cmpI a.o b.o=0 then cmpI a.f b.f else cmpI a.o b.o
theorem A9 (a b:Int):cmpI a b<0↔a<b:=by
 unfold cmpI;split
 ·omega
 ·split <;> omega
theorem wR (a b:Int):cmpI a b=0↔a=b:=by
 unfold cmpI;split
 ·omega
 ·split <;> omega
theorem sJ (a b:Lk):cmpK a b<0↔a.o<b.o∨(a.o=b.o∧a.f<b.f):=by
 unfold cmpK
 split
 ·rename_i h;rw [wR] at h;rw [A9];omega
 ·rename_i h;rw [wR] at h;rw [A9];omega
def D (a b:Lk):Prop:=a.o=b.o→a.t≤b.f∨b.t≤a.f
theorem G9 {l m:List Lk} (hp:l.Perm m) (hs:l.Pairwise fun a b=>¬ cmpK b a<0) (hok:∀ x∈m,okK x) (hd:m.Pairwise D):l.Pairwise S:=by
 have hd':l.Pairwise D:=(hp.pairwise_iff (fun {a b} (h:D a b)=>(fun e=>(h e.symm).symm:D b a))).2 hd
 have hok':∀ x∈l,okK x:=fun x hx=>hok x (hp.mem_iff.1 hx)
 refine (List.Pairwise.imp_of_mem ?_ (hd'.and hs))
 rintro a b ha hb ⟨h1,h2⟩
 obtain ⟨_,_,_,a4,_⟩:=hok' a ha
 obtain ⟨_,_,_,b4,_⟩:=hok' b hb
 rw [sJ] at h2
 unfold S D at *
 by_cases e:a.o=b.o
 ·right
  refine ⟨e,?_⟩
  rcases h1 e with h | h
  ·exact h
  ·exact absurd (.inr ⟨e.symm,by omega⟩) h2
 ·left;omega
theorem Gj {l m:List Lk} (hp:l.Perm m) (o k:Int) (b:Bool):Has l o k b↔Has m o k b:=by
 constructor
 ·rintro ⟨y,hy,h⟩;exact ⟨y,hp.mem_iff.1 hy,h⟩
 ·rintro ⟨y,hy,h⟩;exact ⟨y,hp.mem_iff.2 hy,h⟩
theorem R.d {a b:Lk} (h:R a b):D a b:=by
 intro e
 rcases h with h | ⟨_,h | ⟨h,_⟩⟩
 ·omega
 ·exact .inl (by omega)
 ·exact .inl (by omega)
theorem FU {l:List Lk} {x:Lk} (h:dW (aN l x)):(aN l x++[x]).Pairwise D:=by
 refine List.pairwise_append.2 ⟨h.rises.imp R.d,by simp,fun a ha b hb=>?_⟩
 simp at hb;subst hb
 intro e
 obtain ⟨y,hy,hz⟩:=List.mem_flatMap.1 ha
 obtain ⟨e1,e2,e3,e4,e5,e6⟩:=kP hz
 rcases e6 (by omega) with h | h
 ·exact .inl h
 ·exact .inr h
theorem Dx {l m:List Lk} {x:Lk} (h:dW l) (hx:okK x) (hm:l.any (clash x)=false) (hp:m.Perm (aN l x++[x])) (hs:m.Pairwise fun a b=>¬ cmpK b a<0) :
  dW (joinL m)∧∀ o k b,Has (joinL m) o k b↔(Has l o k b∧¬ (o=x.o∧x.f≤k∧k<x.t))∨(x.o=o∧x.f≤k∧k<x.t∧x.a=b):=by
 have hw:=qL h hx
 have hok:∀ y∈aN l x++[x],okK y:=by
  intro y hy
  rcases List.mem_append.1 hy with hy | hy
  ·exact hw.ok y hy
  ·simp at hy;rw [hy];exact hx
 have hS:=G9 hp hs hok (FU hw)
 have hJ:=Ae (fun y hy=>hok y (hp.mem_iff.1 hy)) hS
 have hH:∀ o k b,Has (joinL m) o k b↔(Has l o k b∧¬ (o=x.o∧x.f≤k∧k<x.t))∨(x.o=o∧x.f≤k∧k<x.t∧x.a=b):=by
  intro o k b
  rw [hJ.has,Gj hp,iq,mo,kN]
 refine ⟨⟨hJ.ok,hJ.rises,?_⟩,hH⟩
 have hcx:∀ y∈l,clash x y=false:=fun y hy=>by have:=List.any_eq_false.1 hm y hy;simpa using this
 have hmeet:∀ o k b,o≠x.o→Has l o k b→x.f≤k→k<x.t→b=false∧x.a=false:=by
  rintro o k b hne ⟨y,hy,rfl,h1,h2,rfl⟩ h3 h4
  have hc:=hcx y hy
  rw [← Bool.not_eq_true,qQ hx (h.ok y hy)] at hc
  by_cases ha:x.a=true∨y.a=true
  ·exact absurd ⟨fun e=>hne e.symm,ha,k,h3,h4,h1,h2⟩ hc
  ·simp only [not_or,Bool.not_eq_true] at ha;exact ⟨ha.2,ha.1⟩
 intro o o' k b b' hne h1 h2
 rcases (hH _ _ _).1 h1 with ⟨h1,_⟩ | ⟨h1,h3,h4,h5⟩ <;> rcases (hH _ _ _).1 h2 with ⟨h2,_⟩ | ⟨h2,h6,h7,h8⟩
 ·exact h.no o o' k b b' hne h1 h2
 ·have:=hmeet o k b (by omega) h1 h6 h7;exact ⟨this.1,by rw [← h8];exact this.2⟩
 ·have:=hmeet o' k b' (by omega) h2 h3 h4;exact ⟨by rw [← h5];exact this.2,this.1⟩
 ·omega
/-! ### Byte by byte -/
theorem D.symm {a b:Lk} (h:D a b):D b a:=fun e=>(h e.symm).symm
end KM
end Go.Proofs.YthfeoiffoeagkaaGreatDoor.LK
namespace Go.Proofs.YthfeoiffoeagkaaGreatDoor.LK.KM
theorem uh:∀ (l m:List Lk),(∀ x∈l,okK x)→(∀ x∈m,okK x)→l.Pairwise R→m.Pairwise R→(∀ o k b,Has l o k b↔Has m o k b)→l=m
 | [],[],_,_,_,_,_=>rfl
 | [],y::m,_,hm,_,_,h=>by
  obtain ⟨_,_,_,h4,_⟩:=hm y (by simp)
  obtain ⟨z,hz,_⟩:=(h y.o y.f y.a).2 ⟨y,by simp,rfl,Int.le_refl _,h4,rfl⟩
  simp at hz
 | x::l,[],hl,_,_,_,h=>by
  obtain ⟨_,_,_,h4,_⟩:=hl x (by simp)
  obtain ⟨z,hz,_⟩:=(h x.o x.f x.a).1 ⟨x,by simp,rfl,Int.le_refl _,h4,rfl⟩
  simp at hz
 | x::l,y::m,hl,hm,pl,pm,h=>by
  obtain ⟨px,pl'⟩:=List.pairwise_cons.1 pl
  obtain ⟨py,pm'⟩:=List.pairwise_cons.1 pm
  have hxo:=hl x (by simp)
  have hyo:=hm y (by simp)
  have hx4:x.f<x.t:=hxo.2.2.2.1
  have hy4:y.f<y.t:=hyo.2.2.2.1
  have first:∀ (a:Lk) (r:List Lk),okK a→(∀ z∈r,R a z)→∀ o k b,Has (a::r) o k b→a.o<o∨(a.o=o∧a.f≤k):=by
   rintro a r ha hr o k b ⟨z,hz,rfl,h1,h2,rfl⟩
   have h4:a.f<a.t:=ha.2.2.2.1
   rcases List.mem_cons.1 hz with rfl | hz
   ·exact .inr ⟨rfl,h1⟩
   ·rcases hr z hz with h | ⟨h,h' | ⟨h',_⟩⟩
    ·exact .inl h
    ·exact .inr ⟨h,by omega⟩
    ·exact .inr ⟨h,by omega⟩
  have hx1:Has (x::l) x.o x.f x.a:=⟨x,by simp,rfl,Int.le_refl _,hx4,rfl⟩
  have hy1:Has (y::m) y.o y.f y.a:=⟨y,by simp,rfl,Int.le_refl _,hy4,rfl⟩
  have f1:=first y m hyo py _ _ _ ((h _ _ _).1 hx1)
  have f2:=first x l hxo px _ _ _ ((h _ _ _).2 hy1)
  have eo:x.o=y.o:=by omega
  have ef:x.f=y.f:=by omega
  have only:∀ (a:Lk) (r:List Lk),okK a→(∀ z∈r,R a z)→∀ k b,a.f≤k→k<a.t→Has (a::r) a.o k b→b=a.a:=by
   rintro a r ha hr k b h1 h2 ⟨z,hz,e,h3,h4,rfl⟩
   rcases List.mem_cons.1 hz with rfl | hz
   ·rfl
   ·exfalso
    rcases hr z hz with h | ⟨_,h | ⟨h,_⟩⟩ <;> omega
  have ea:x.a=y.a:=only y m hyo py x.f x.a (by omega) (by omega) (by rw [← eo];exact (h _ _ _).1 hx1)
  have ends:∀ (a b:Lk) (r s:List Lk),okK a→(∀ z∈r,R a z)→a.o=b.o→a.f=b.f→a.a=b.a→(∀ o k c,Has (b::s) o k c→Has (a::r) o k c)→b.t≤a.t:=by
   intro a b r s ha hr e1 e2 e3 hh
   apply Decidable.byContradiction
   intro hc
   have h4:a.f<a.t:=ha.2.2.2.1
   obtain ⟨z,hz,z1,z2,z3,z4⟩:=hh b.o a.t b.a ⟨b,by simp,rfl,by omega,by omega,rfl⟩
   rcases List.mem_cons.1 hz with rfl | hz
   ·omega
   ·rcases hr z hz with h | ⟨_,h | ⟨h,h5⟩⟩
    ·omega
    ·omega
    ·exact h5 (by rw [z4];exact e3)
  have et:x.t=y.t:=by
   have:=ends x y l m hxo px eo ef ea (fun o k c hc=>(h o k c).2 hc)
   have:=ends y x m l hyo py eo.symm ef.symm ea.symm (fun o k c hc=>(h o k c).1 hc)
   omega
  have exy:x=y:=by
   obtain ⟨a,b,c,d⟩:=x
   obtain ⟨a',b',c',d'⟩:=y
   simp only at eo ef et ea
   rw [eo,ef,et,ea]
  subst exy
  have tail:∀ (a:Lk) (r s:List Lk),okK a→(∀ z∈r,R a z)→(∀ o k c,Has (a::r) o k c→Has (a::s) o k c)→∀ o k c,Has r o k c→Has s o k c:=by
   rintro a r s ha hr hh o k c ⟨z,hz,rfl,h1,h2,rfl⟩
   obtain ⟨u,hu,e1,e2,e3,e4⟩:=hh z.o k z.a ⟨z,by simp [hz],rfl,h1,h2,rfl⟩
   rcases List.mem_cons.1 hu with rfl | hu
   ·exfalso
    rcases hr z hz with h | ⟨_,h | ⟨h,_⟩⟩ <;> omega
   ·exact ⟨u,hu,e1,e2,e3,e4⟩
  rw [uh l m (fun z hz=>hl z (by simp [hz])) (fun z hz=>hm z (by simp [hz])) pl' pm'
   (fun o k b=>⟨tail x l m hxo px (fun o k c=>(h o k c).1) o k b,tail x m l hxo py (fun o k c=>(h o k c).2) o k b⟩)]
def kK (free:Bool) (l:List Lk) (x:Lk) (m:List Lk):Prop :=
 ∀ o k b,Has m o k b↔(Has l o k b∧¬ (o=x.o∧x.f≤k∧k<x.t))∨(free=false∧x.o=o∧x.f≤k∧k<x.t∧x.a=b)
def fO (l:List Lk) (x:Lk):Int:=if (bC l).1=0 then (if okK x then 0 else 3) else (bC l).1
theorem gJ {l:List Lk} {x:Lk}:fO l x=0↔(l.length≤40∧dW l)∧okK x:=by
 unfold fO
 rw [← vv]
 constructor
 ·intro h
  split at h
  ·rename_i h1
   split at h
   ·rename_i h2;exact ⟨h1,h2⟩
   ·cases h
  ·rename_i h1;exact absurd h h1
 ·rintro ⟨h1,h2⟩
  rw [if_pos h1,if_pos h2]
def fT (free:Bool) (l:List Lk) (x:Lk) (err:Int) (m:List Lk):Prop :=
 (fO l x≠0∧err=fO l x∧m=[]) ∨
 (fO l x=0∧free=false∧l.any (clash x)=true∧err=13∧m=[]) ∨
 (fO l x=0∧(free=true∨l.any (clash x)=false)∧∃ m',dW m'∧kK free l x m'∧((40<m'.length∧err=5∧m=[])∨(m'.length≤40∧err=0∧m=m')))
theorem AA {free:Bool} {l:List Lk} {x:Lk} {e e':Int} {m m':List Lk} (h:fT free l x e m) (h':fT free l x e' m'):e=e'∧m=m':=by
 rcases h with ⟨h1,h2,h3⟩ | ⟨h1,h2,h3,h4,h5⟩ | ⟨h1,h2,a,ha,hb,hc⟩ <;> rcases h' with ⟨g1,g2,g3⟩ | ⟨g1,g2,g3,g4,g5⟩ | ⟨g1,g2,a',ga,gb,gc⟩
 ·exact ⟨h2.trans g2.symm,h3.trans g3.symm⟩
 ·exact absurd g1 h1
 ·exact absurd g1 h1
 ·exact absurd h1 g1
 ·exact ⟨h4.trans g4.symm,h5.trans g5.symm⟩
 ·rcases g2 with g2 | g2
  ·rw [h2] at g2;cases g2
  ·rw [h3] at g2;cases g2
 ·exact absurd h1 g1
 ·rcases h2 with h2 | h2
  ·rw [g2] at h2;cases h2
  ·rw [g3] at h2;cases h2
 ·have:a=a':=uh a a' ha.ok ga.ok ha.rises ga.rises (fun o k b=>(hb o k b).trans (gb o k b).symm)
  subst this
  rcases hc with ⟨c1,c2,c3⟩ | ⟨c1,c2,c3⟩ <;> rcases gc with ⟨d1,d2,d3⟩ | ⟨d1,d2,d3⟩
  ·exact ⟨c2.trans d2.symm,c3.trans d3.symm⟩
  ·omega
  ·omega
  ·exact ⟨c2.trans d2.symm,c3.trans d3.symm⟩
theorem free_spec {l:List Lk} {x:Lk} (h:fO l x=0):dW (aN l x)∧kK true l x (aN l x):=by
 obtain ⟨⟨_,hr⟩,hx⟩:=gJ.1 h
 refine ⟨qL hr hx,fun o k b=>?_⟩
 rw [mo];simp
theorem FP {l m:List Lk} {x:Lk} (h:fO l x=0) (hm:l.any (clash x)=false) (hp:m.Perm (aN l x++[x])) (hs:m.Pairwise fun a b=>¬ cmpK b a<0):dW (joinL m)∧kK false l x (joinL m):=by
 obtain ⟨⟨_,hr⟩,hx⟩:=gJ.1 h
 obtain ⟨h1,h2⟩:=Dx hr hx hm hp hs
 refine ⟨h1,fun o k b=>?_⟩
 rw [h2];simp
/-! ### Owners who leave -/
def dI (l:List Lk) (o:Int):List Lk:=l.filter fun x => !decide (x.o=o)
end Go.Proofs.YthfeoiffoeagkaaGreatDoor.LK.KM
