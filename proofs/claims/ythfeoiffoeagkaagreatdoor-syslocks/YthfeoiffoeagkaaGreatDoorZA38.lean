/-
  Where a clean path leads.
-/
import Derived.Test.YthfeoiffoeagkaaGreatDoorZA37
namespace Go.Proofs.YthfeoiffoeagkaaGreatDoor
open Go.RowKit PM Go.Sort
set_option linter.unusedVariables false
theorem vN {n:List UInt8} (h:named n=true):(∀ c∈n,c≠47)∧n≠[]∧n.length≤12:=by
 simp only [named,Bool.and_eq_true,decide_eq_true_eq,List.all_eq_true] at h
 obtain ⟨⟨h1,h2⟩,h3⟩:=h
 refine ⟨fun c hc e=>?_,?_,h2⟩
 ·subst e;exact absurd (h3 47 hc) (by decide)
 ·rintro rfl;simp at h1
theorem rT:∀ L:List (List UInt8),(∀ p∈L,named p=true)→bO L=some L
 | [],_=>rfl
 | p::r,h=>by
  have hp:=h p (by simp)
  obtain ⟨_,h0,_⟩:=vN hp
  have h1:p≠[46]:=by rintro rfl;exact absurd hp (by decide)
  have hs:skip p=false:=by simp [skip,h0,h1]
  have hb:bad p=false:=by simp [bad,hp]
  rw [bO,hs,hb,rT r (fun x hx=>h x (by simp [hx]))]
  rfl
theorem Ap {l:List UInt8} (h:clean l=true):aI l=(parts l,0):=by
 have hne:=bX h
 simp only [clean,Bool.and_eq_true,decide_eq_true_eq,List.all_eq_true] at h
 unfold aI
 rw [if_neg (by omega),if_neg (by cases l with | nil=>exact absurd rfl hne | cons=>simp),rT _ h.2]
def plD (d:List UInt8):List (List UInt8):=if d=[] then [] else parts d
theorem qy {d n:List UInt8} (hn:named n=true):parts (joinL d n)=plD d++[n]:=by
 obtain ⟨hf,_,_⟩:=vN hn
 unfold joinL plD
 cases d with
 | nil=>exact iD n hf
 | cons c r =>
  rw [if_neg (by simp),if_neg (by simp)]
  exact qz _ n hf
theorem tH {seen:List Ent} {fo:Bool} {a n:List UInt8} {r:List (List UInt8)} {h:Nat} (hd:aW seen a=0) (hn:named n=true) (hk:((getL seen (joinL a n)).getD zeroE).kind=3→r=[]∧fo=false):goL seen fo a n r h=(0,joinL a n,r,h):=by
 unfold goL
 rw [if_neg (by simp [hd]),if_neg (by rintro rfl;exact absurd hn (by decide)),if_neg]
 rintro ⟨h1,h2⟩
 obtain ⟨g1,g2⟩:=hk h1
 rcases h2 with h2 | h2
 ·exact h2 g1
 ·rw [g2] at h2;cases h2
theorem Iz {seen:List Ent} (hr:Right false seen) (fo:Bool):∀ (k:Nat) (d:List UInt8),d.length≤k→aW seen d=0→∀ (g:Nat) (rest:List (List UInt8)) (h:Nat),eD seen fo (g+(plD d).length) [] (plD d++rest) h=eD seen fo g d rest h:=by
 intro k
 induction k with
 | zero =>
  intro d hk hd g rest h
  have:d=[]:=List.length_eq_zero_iff.1 (by omega)
  subst this
  rfl
 | succ k ih =>
  intro d hk hd g rest h
  by_cases h0:d=[]
  ·subst h0;rfl
  ·rcases dJ.1 hd with e | ⟨e,he,hp,hkd,hg⟩
   ·exact absurd e h0
   have hc:=hr.clean he
   rw [hp] at hc
   obtain ⟨hj,hn,_⟩:=qR d hc
   have hdd:aW seen (aA d)=0:=by
    rcases hr.dir e he with g' | ⟨d',hd',hdp,hdk⟩
    ·rw [hp] at g';rw [g'];exact dJ.2 (.inl rfl)
    ·rw [hp] at hdp
     exact dJ.2 (.inr ⟨d',hd',hdp,hdk,by rw [← hdp];exact dU hr.sorted hd' (hr.ne hd')⟩)
   have hpt:plD d=plD (aA d)++[(cutL d).2]:=by
    rw [← qy hn]
    show plD d=parts (joinL (cutL d).1 (cutL d).2)
    rw [hj,plD,if_neg h0]
   rw [hpt,List.append_assoc,List.length_append,List.length_singleton,show g+((plD (aA d)).length+1)=(g+1)+(plD (aA d)).length by omega,ih (aA d) (by have:=cO h0;omega) hdd (g+1)]
   show eD seen fo (g+1) (aA d) ((cutL d).2::rest) h=_
   have hj':joinL (aA d) (cutL d).2=d:=hj
   rw [eD,tH hdd hn (fun h3=>by rw [hj',hg] at h3;simp [hkd] at h3),if_pos rfl,hj']
theorem Lj {seen:List Ent} (hr:Right false seen) {d n:List UInt8} (hd:aW seen d=0) (hn:named n=true) (hl:(joinL d n).length≤80):clean (joinL d n)=true:=by
 simp only [clean,Bool.and_eq_true,decide_eq_true_eq,List.all_eq_true]
 refine ⟨hl,fun p hp=>?_⟩
 rw [qy hn] at hp
 rcases List.mem_append.1 hp with hp | hp
 ·unfold plD at hp
  split at hp
  ·cases hp
  ·rename_i h0
   rcases dJ.1 hd with e | ⟨e,he,hpe,_⟩
   ·exact absurd e h0
   ·have hc:=hr.clean he
    rw [hpe] at hc
    simp only [clean,Bool.and_eq_true,decide_eq_true_eq,List.all_eq_true] at hc
    exact hc.2 p hp
 ·rw [List.mem_singleton] at hp;rw [hp];exact hn
theorem IB {seen:List Ent} (hr:Right false seen) {fo:Bool} {d n:List UInt8} (hd:aW seen d=0) (hn:named n=true) (hl:(joinL d n).length≤80) (hk:((getL seen (joinL d n)).getD zeroE).kind=3→fo=false):aP seen fo (joinL d n)=(0,joinL d n):=by
 have hc:=Lj hr hd hn hl
 have hp:=Ap hc
 have hL:eD seen fo 1100 [] (parts (joinL d n)) 0=(0,joinL d n):=by
  have h1:(parts (joinL d n)).length≤81:=by have:=zm (joinL d n);omega
  rw [qy hn] at h1 ⊢
  rw [List.length_append,List.length_singleton] at h1
  rw [show 1100=(1098-(plD d).length+2)+(plD d).length by omega,Iz hr fo _ d (Nat.le_refl _) hd,eD,tH hd hn (fun h3=>⟨rfl,hk h3⟩),if_pos rfl,eD]
 unfold aP
 rw [hp]
 simp only [hL]
 rw [if_neg (by simp),if_neg (by simp),if_neg (by omega)]
theorem Bu {seen:List Ent} (hr:Right false seen) {fo:Bool} {e:Ent} (he:e∈seen) (hk:e.kind=3→fo=false):aP seen fo e.p=(0,e.p):=by
 have hc:=hr.clean he
 obtain ⟨hj,hn,_⟩:=qR e.p hc
 have hl:e.p.length≤80:=by simp only [clean,Bool.and_eq_true,decide_eq_true_eq] at hc;exact hc.1
 have hj':joinL (aA e.p) (cutL e.p).2=e.p:=hj
 have hdd:aW seen (aA e.p)=0:=by
  rcases hr.dir e he with g' | ⟨d',hd',hdp,hdk⟩
  ·rw [g'];exact dJ.2 (.inl rfl)
  ·exact dJ.2 (.inr ⟨d',hd',hdp,hdk,by rw [← hdp];exact dU hr.sorted hd' (hr.ne hd')⟩)
 have:=IB hr (fo:=fo) hdd hn (by rw [hj'];exact hl) (fun h3=>hk (by rw [hj',dU hr.sorted he (hr.ne he)] at h3;exact h3))
 rwa [hj'] at this
end Go.Proofs.YthfeoiffoeagkaaGreatDoor
