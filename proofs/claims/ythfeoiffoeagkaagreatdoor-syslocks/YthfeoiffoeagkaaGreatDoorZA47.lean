/-
  SysLocks: the model's run.
-/
import Derived.Test.YthfeoiffoeagkaaGreatDoorZA39
namespace Go.Proofs.YthfeoiffoeagkaaGreatDoor
open Go.RowKit PM Go.Sort
set_option linter.unusedVariables false
namespace PM
open LK LK.KM
theorem mU {x:Lk} (hx:okK x):dW [x]:=(vv.1 (by rw [ru,if_pos hx])).2
theorem vH {x:Lk} (hx:okK x):bG false [] x=(0,[x]):=by
 have h:fT false [] x 0 [x]:=by
  refine .inr (.inr ⟨gJ.2 ⟨⟨Nat.zero_le _,zy⟩,hx⟩,.inr rfl,[x],mU hx,fun o k b=>?_,.inr ⟨by simp,rfl,rfl⟩⟩)
  rw [kN]
  constructor
  ·exact fun h=>.inr ⟨rfl,h⟩
  ·rintro (⟨⟨y,hy,_⟩,_⟩ | ⟨_,h⟩)
   ·cases hy
   ·exact h
 obtain ⟨h1,h2⟩:=jU h
 exact Prod.ext h1.symm h2.symm
theorem CJ {x:Lk} (hx:okK x):bG false [x] x=(0,[x]):=by
 have h:fT false [x] x 0 [x]:=by
  refine .inr (.inr ⟨gJ.2 ⟨⟨by simp,mU hx⟩,hx⟩,.inr (by simp [clash]),[x],mU hx,fun o k b=>?_,.inr ⟨by simp,rfl,rfl⟩⟩)
  rw [kN]
  constructor
  ·exact fun h=>.inr ⟨rfl,h⟩
  ·rintro (⟨h,_⟩ | ⟨_,h⟩)
   ·exact h
   ·exact h
 obtain ⟨h1,h2⟩:=jU h
 exact Prod.ext h1.symm h2.symm
theorem wY {x y:Lk} (hx:okK x) (hy:okK y) (hc:clash y x=true):(bG false [x] y).1=13:=by
 have h:fT false [x] y 13 []:=.inr (.inl ⟨gJ.2 ⟨⟨by simp,mU hx⟩,hy⟩,rfl,by simp [hc],rfl,rfl⟩)
 exact (jU h).1.symm
theorem Gs {x y:Lk} (hx:okK x) (hy:okK y) (ho:x.o<y.o) (hc:clash y x=false):bG false [x] y=(0,[x,y]):=by
 have hr:dW [x,y]:=by
  refine ⟨?_,?_,?_⟩
  ·intro z hz
   simp only [List.mem_cons,List.not_mem_nil,or_false] at hz
   rcases hz with rfl | rfl
   ·exact hx
   ·exact hy
  ·exact List.Pairwise.cons (fun b hb=>by rw [List.mem_singleton] at hb;subst hb;exact .inl ho) (List.pairwise_singleton _ _)
  ·refine (mE ?_).2 ?_
   ·intro z hz
    simp only [List.mem_cons,List.not_mem_nil,or_false] at hz
    rcases hz with rfl | rfl
    ·exact hx
    ·exact hy
   ·intro a ha b hb
    simp only [List.mem_cons,List.not_mem_nil,or_false] at ha hb
    rcases ha with rfl | rfl <;> rcases hb with rfl | rfl
    ·simp [clash]
    ·rw [vk];exact hc
    ·exact hc
    ·simp [clash]
 have h:fT false [x] y 0 [x,y]:=by
  refine .inr (.inr ⟨gJ.2 ⟨⟨by simp,mU hx⟩,hy⟩,.inr (by simp [hc]),[x,y],hr,fun o k b=>?_,.inr ⟨by simp,rfl,rfl⟩⟩)
  rw [show [x,y]=[x]++[y] from rfl,iq,kN,kN]
  constructor
  ·rintro (h | h)
   ·exact .inl ⟨h,by rintro ⟨e,_⟩;omega⟩
   ·exact .inr ⟨rfl,h⟩
  ·rintro (⟨h,_⟩ | ⟨_,h⟩)
   ·exact .inl h
   ·exact .inr h
 obtain ⟨h1,h2⟩:=jU h
 exact Prod.ext h1.symm h2.symm
def sL (up:List Ent) (lows:List (List Ent)) (p:ByteArray) (ls:List Lk) (a:Option Nat):Sy:=⟨up,lows,[⟨p,⟨#[]⟩,ls⟩],[⟨0,1,0⟩,⟨0,1,0⟩],fun x=>if x=8 then some 1 else if x=0 then a else none⟩
def takeC (x:Lk):Cl:=⟨14,x.o,0,x.f,x.t,⟨#[]⟩,⟨#[]⟩,⟨#[]⟩,x.a⟩
def sQ (o:Int) (p:ByteArray):Cl:=⟨1,o,0,1,0,p,⟨#[]⟩,⟨#[]⟩,false⟩
def yG:Cl:=⟨2,0,0,0,0,⟨#[]⟩,⟨#[]⟩,⟨#[]⟩,false⟩
section
variable {up:List Ent} {lows:List (List Ent)} {p:ByteArray}
theorem J5 (ls:List Lk) (x:Lk) (hx:x.o=0):(sL up lows p ls (some 0)).answer (takeC x)=if (bG false ls x).1=0 then (sL up lows p (bG false ls x).2 (some 0),ans 0 ⟨#[]⟩) else (sL up lows p ls (some 0),qX (bG false ls x).1):=by
 obtain ⟨o,f,t,a⟩:=x
 have hx:o=0:=hx
 subst hx
 rfl
theorem take1 (ls:List Lk) (x:Lk) (hx:x.o=1) (a:Option Nat):(sL up lows p ls a).answer (takeC x)=if (bG false ls x).1=0 then (sL up lows p (bG false ls x).2 a,ans 0 ⟨#[]⟩) else (sL up lows p ls a,qX (bG false ls x).1):=by
 obtain ⟨o,f,t,b⟩:=x
 have hx:o=1:=hx
 subst hx
 rfl
theorem DZ (ls:List Lk):(sL up lows p ls (some 0)).answer yG=(sL up lows p (dI ls 0) none,ans 0 ⟨#[]⟩):=by
 have h:(sL up lows p ls (some 0)).eY yG=(0,((sL up lows p ls (some 0)).dS 0 none).setF 0 ⟨p,⟨#[]⟩,dI ls 0⟩,ans 0 ⟨#[]⟩):=rfl
 unfold Sy.answer
 rw [h,if_pos rfl]
 refine Prod.ext ?_ rfl
 show ((sL up lows p ls (some 0)).dS 0 none).setF 0 ⟨p,⟨#[]⟩,dI ls 0⟩=_
 unfold sL Sy.dS Sy.setF
 congr 1
 funext x
 by_cases h8:x=8
 ·subst h8;rfl
 ·by_cases h0:x=0
  ·subst h0;rfl
  ·simp [h8,h0]
theorem Ju {e:Ent} (he:e∈aB (up::lows)) (hk:e.kind=1) (hp:p.data.toList=e.p) (r:List Cl):(aO up lows).run (sQ 0 p::sQ 1 p::r)=(((sL up lows p [] (some 0)).run r).1,ans 0 ⟨#[]⟩::ans 0 ⟨#[]⟩::((sL up lows p [] (some 0)).run r).2):=by
 have e1:=rQ (s:=aO up lows) (o:=0) he hk hp (by decide) rfl
 have s1:(aO up lows).opened p 1 (0*8)=⟨up,lows,[⟨p,⟨#[]⟩,[]⟩],[⟨0,1,0⟩],fun x=>if x=0 then some 0 else none⟩:=rfl
 rw [s1] at e1
 obtain ⟨s,hs⟩:∃ s,s=(⟨up,lows,[⟨p,⟨#[]⟩,[]⟩],[⟨0,1,0⟩],fun x=>if x=0 then some 0 else none⟩:Sy):=⟨_,rfl⟩
 have e2:=rQ (s:=s) (o:=1) (by rw [hs];exact he) hk hp (by decide) (by rw [hs];rfl)
 have s2:s.opened p 1 (1*8)=sL up lows p [] (some 0):=by
  have ho:s.pG p=some 0:=by
   unfold Sy.pG
   rw [show s.reach=[0] by rw [hs];rfl,show s.pathOf=fun i=>((([⟨p,⟨#[]⟩,[]⟩]:List Fl)[i]?).map (·.path)).getD ⟨#[]⟩ by rw [hs];rfl]
   simp
  unfold Sy.opened Sy.fileAt
  rw [ho,hs]
  rfl
 rw [s2] at e2
 rw [← hs] at e1
 rw [Sy.run,Sy.run]
 have e1':(aO up lows).answer (sQ 0 p)=(s,ans 0 ⟨#[]⟩):=e1
 have e2':s.answer (sQ 1 p)=(sL up lows p [] (some 0),ans 0 ⟨#[]⟩):=e2
 simp only [e1',e2']
def rG (p:ByteArray) (x y:Lk):List Cl:=[sQ 0 p,sQ 1 p,takeC x,takeC y,yG,takeC y]
theorem EI {e:Ent} (he:e∈aB (up::lows)) (hk:e.kind=1) (hp:p.data.toList=e.p) {x y:Lk} (hx:okK x) (hy:okK y) (h0:x.o=0) (h1:y.o=1):∃ a0 a1 a2 a3 a4 a5:An,((aO up lows).run (rG p x y)).2=[a0,a1,a2,a3,a4,a5]∧a2.err=0∧a3.err=(if clash y x then 13 else 0)∧a5.err=0:=by
 unfold rG
 rw [Ju he hk hp]
 simp only [Sy.run]
 rw [J5 [] x h0,vH hx,if_pos rfl]
 simp only
 rw [take1 [x] y h1]
 cases hc:clash y x with
 | true =>
  rw [if_neg (by rw [wY hx hy hc];decide),wY hx hy hc]
  simp only
  rw [DZ,show dI [x] 0=[] by simp [dI,h0]]
  simp only
  rw [take1 [] y h1,vH hy,if_pos rfl]
  exact ⟨_,_,_,_,_,_,rfl,rfl,rfl,rfl⟩
 | false =>
  rw [Gs hx hy (by omega) hc,if_pos rfl]
  simp only
  rw [DZ,show dI [x,y] 0=[y] by simp [dI,h0,h1]]
  simp only
  rw [take1 [y] y h1,CJ hy,if_pos rfl]
  exact ⟨_,_,_,_,_,_,rfl,rfl,rfl,rfl⟩
end
end PM
end Go.Proofs.YthfeoiffoeagkaaGreatDoor
