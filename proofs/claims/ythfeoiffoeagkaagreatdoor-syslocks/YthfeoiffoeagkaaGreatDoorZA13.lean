/-
  Plain mathematics of ways: name by name, links followed.
-/
import Derived.Test.YthfeoiffoeagkaaGreatDoorZA12
namespace Go.Proofs.YthfeoiffoeagkaaGreatDoor
open Go.RowKit PM Go.Sort
set_option linter.unusedVariables false
namespace PM
def slash (t:List UInt8):Bool:=t.head? == some 47
def goL (seen:List Ent) (follow:Bool) (a n:List UInt8) (r:List (List UInt8)) (h:Nat):Int × List UInt8 × List (List UInt8) × Nat :=
 if ¬ aW seen a=0 then (aW seen a,a,n::r,h)
 else if n=[46,46] then (0,aA a,r,h)
 else if ((getL seen (joinL a n)).getD zeroE).kind=3∧(r≠[]∨follow=true) then
  if 8<h+1 then (12,a,r,h+1)
  else if ¬ (aI ((getL seen (joinL a n)).getD zeroE).text.data.toList).2=0 then ((aI ((getL seen (joinL a n)).getD zeroE).text.data.toList).2,a,r,h+1)
  else (0,if slash ((getL seen (joinL a n)).getD zeroE).text.data.toList then [] else a,(aI ((getL seen (joinL a n)).getD zeroE).text.data.toList).1++r,h+1)
 else (0,joinL a n,r,h)
def eD (seen:List Ent) (follow:Bool):Nat→List UInt8→List (List UInt8)→Nat→Int × List UInt8
 | 0,a,_,_=>(0,a)
 | _+1,a,[],_=>(0,a)
 | g+1,a,n::r,h=>if (goL seen follow a n r h).1=0 then eD seen follow g (goL seen follow a n r h).2.1 (goL seen follow a n r h).2.2.1 (goL seen follow a n r h).2.2.2 else ((goL seen follow a n r h).1,[])
def aP (seen:List Ent) (follow:Bool) (way:List UInt8):Int × List UInt8 :=
 if ¬ (aI way).2=0 then ((aI way).2,[])
 else if ¬ (eD seen follow 1100 [] (aI way).1 0).1=0 then ((eD seen follow 1100 [] (aI way).1 0).1,[])
 else if 80<(eD seen follow 1100 [] (aI way).1 0).2.length then (4,[])
 else (0,(eD seen follow 1100 [] (aI way).1 0).2)
theorem qx:∀ (L:List (List UInt8)) {x:List (List UInt8)},bO L=some x→x.length≤L.length∧∀ n∈x,n.length≤12
 | [],x,h=>by simp [bO] at h;subst h;simp
 | p::r,x,h=>by
  rw [bO] at h
  split at h
  ·obtain ⟨h1,h2⟩:=qx r h
   exact ⟨by simp;omega,h2⟩
  ·split at h
   ·cases h
   ·rename_i hb
    cases hr:bO r with
    | none=>rw [hr] at h;cases h
    | some y =>
     rw [hr] at h
     simp at h
     subst h
     obtain ⟨h1,h2⟩:=qx r hr
     refine ⟨by simp;omega,fun n hn=>?_⟩
     rcases List.mem_cons.1 hn with rfl | hn
     ·rw [Bool.not_eq_true] at hb
      rcases DU hb with g | ⟨_,g⟩
      ·have:=beq_iff_eq.1 g;rw [this];decide
      ·unfold named at g
       simp at g
       exact g.1.2
     ·exact h2 n hn
theorem zl:∀ (l cur:List UInt8),(pa cur l).length≤l.length+1
 | [],cur=>by simp [pa]
 | c::r,cur=>by
  rw [pa]
  split
  ·have:=zl r [];simp;omega
  ·have:=zl r (cur++[c]);simp;omega
theorem rU (l:List UInt8):(aI l).1.length≤81∧∀ n∈(aI l).1,n.length≤12:=by
 unfold aI
 split
 ·simp
 ·rename_i h80
  split
  ·simp
  ·cases h:bO (parts l) with
   | none=>simp
   | some x =>
    obtain ⟨h1,h2⟩:=qx _ h
    have:=zl l []
    refine ⟨?_,h2⟩
    show x.length≤81
    unfold parts at h1
    omega
theorem EU {seen:List Ent} (hr:Right false seen) {a:List UInt8} (h:aW seen a=0):a.length≤80:=by
 unfold aW at h
 by_cases h0:a=[]
 ·subst h0;simp
 ·cases hg:getL seen a with
  | none=>rw [hg] at h;cases h
  | some e =>
   obtain ⟨he,rfl⟩:=aM h0 hg
   have h1:=bq (hr.each e he)
   unfold clean at h1
   simp at h1
   exact h1.1
theorem Eb (a:List UInt8):(aA a).length≤a.length:=nE a
theorem yY (a n:List UInt8):(joinL a n).length≤a.length+n.length+1:=by
 unfold joinL
 split
 ·omega
 ·simp;omega
theorem yR {seen:List Ent} (hr:Right false seen) (q:List UInt8):((getL seen q).getD zeroE).text.size≤100:=by
 cases hg:getL seen q with
 | none=>exact (by decide:(0:Nat)≤100)
 | some e =>
  by_cases h0:q=[]
  ·subst h0;rw [bU] at hg;cases hg;exact (by decide:(0:Nat)≤100)
  ·obtain ⟨he,_⟩:=aM h0 hg
   have h1:=hr.each e he
   show e.text.size≤100
   rcases Nat.lt_or_ge 100 e.text.size with g | g
   ·unfold aG at h1;simp [g] at h1;repeat (split at h1 <;> try omega)
   ·exact g
structure xY (a:List UInt8) (ns:List (List UInt8)) (h:Nat):Prop where
 len:a.length≤100
 each:∀ n∈ns,n.length≤12
 num:ns.length≤(h+1)*81
 hops:h≤8
theorem go_ok {seen:List Ent} (hr:Right false seen) {follow:Bool} {a n:List UInt8} {r:List (List UInt8)} {h:Nat} (hw:xY a (n::r) h) (h0:(goL seen follow a n r h).1=0) :
  xY (goL seen follow a n r h).2.1 (goL seen follow a n r h).2.2.1 (goL seen follow a n r h).2.2.2∧(9-(goL seen follow a n r h).2.2.2)*100+(goL seen follow a n r h).2.2.1.length<(9-h)*100+(n::r).length:=by
 have hn:=hw.each n (by simp)
 have hre:∀ x∈r,x.length≤12:=fun x hx=>hw.each x (by simp [hx])
 have hnum:=hw.num
 have hh:=hw.hops
 rw [List.length_cons] at hnum
 unfold goL at h0 ⊢
 split
 ·rename_i h1;rw [if_pos h1] at h0;exact absurd h0 h1
 ·rename_i h1
  have h80:=EU hr (Decidable.not_not.1 h1)
  rw [if_neg h1] at h0
  split
  ·exact ⟨⟨Nat.le_trans (Eb a) (by omega),hre,by simp only;omega,hh⟩,by simp⟩
  ·rename_i h2
   rw [if_neg h2] at h0
   split
   ·rename_i h3
    rw [if_pos h3] at h0
    split
    ·rename_i h4;rw [if_pos h4] at h0;cases h0
    ·rename_i h4
     rw [if_neg h4] at h0
     split
     ·rename_i h5;rw [if_pos h5] at h0;exact absurd h0 h5
     ·obtain ⟨p1,p2⟩:=rU ((getL seen (joinL a n)).getD zeroE).text.data.toList
      refine ⟨⟨?_,fun x hx=>?_,?_,by simp only;omega⟩,?_⟩
      ·show (if slash _=true then [] else a).length≤100
       split
       ·simp
       ·omega
      ·rcases List.mem_append.1 hx with hx | hx
       ·exact p2 x hx
       ·exact hre x hx
      ·simp only [List.length_append];omega
      ·simp only [List.length_append,List.length_cons];omega
   ·have:=yY a n
    exact ⟨⟨by simp only;omega,hre,by simp only;omega,hh⟩,by simp⟩
end PM
end Go.Proofs.YthfeoiffoeagkaaGreatDoor
