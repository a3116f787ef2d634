/-
  Lists of layers that are arguments.
-/
import Derived.Test.YthfeoiffoeagkaaGreatDoorZA42
import Derived.Test.YthfeoiffoeagkaaGreatDoorZA7
namespace Go.Proofs.YthfeoiffoeagkaaGreatDoor
open Go.ChangeShapes Go.WideShapes Go.ChangeAt Go.RowKit PM
set_option linter.unusedVariables false
set_option maxRecDepth 100000
variable {H:Type} {enc:TypeId × Value→H} {W:World}
instance:Inhabited Lay:=⟨⟨none,0,[]⟩⟩
def sG {H:Type} (d:DataW H) (t:List Ent):Prop:=(d=.nil∧t=[])∨∃ elems spare,d=.slice elems spare∧elems.length=t.length∧∀ (j:Nat) e,t[j]?=some e→elems[j]?=some (entD e)
theorem vR {v:Value} {d:DataW H} {ps:List MemPlace} {fuel:Nat} (h:DataW.trod enc Tryz.prog W 0 (fun _=>true) true fuel 23 [v]=some (d,ps)) :
  ∃ (p:Option Addr) (cap:Nat) (t:List Ent),v=.slice p t.length cap∧Lies W p t∧Fits t∧t.length≤cap∧(p=none→cap=0)∧sG d t:=by
 have c38:Tryz.prog.cellsOf 53=4:=by kernel_rfl
 rcases Deep.open_slice Tryz.underlying23 h with ⟨h0,hx⟩ | ⟨a,len,cap,m,n,D,Pl,h0,hb,hl,hm,hmm,hx,hel⟩
 ·simp at h0
  subst h0
  have hd:d=.nil:=congrArg Prod.fst hx
  exact ⟨none,0,[],rfl,Lies.nil _ _,by intro e he;simp at he,Nat.le_refl _,fun _=>rfl,.inl ⟨hd,rfl⟩⟩
 ·simp at h0
  subst h0
  have hm':m=cap:=by rw [hmm];rfl
  subst hm'
  rw [c38] at hel
  have hel':∀ i,i<len→∃ e:Ent,W.cells? 0 (a.add (i*4)) 4=some (encE e)∧(e.path.size≤maxLen∧e.text.size≤maxLen)∧D i=entD e:=fun i hi=>by
   obtain ⟨cs',h1,h2⟩:=hel i (by omega)
   obtain ⟨e,rfl,h3,h4,h5⟩:=Da h2
   exact ⟨e,h1,⟨h3,h4⟩,h5⟩
  obtain ⟨E,hE⟩:=Deep.choose_lt hel'
  have hlen:((List.range len).map E).length=len:=by simp
  have hcell:∀ i,i<len→∀ j v,(encE (E i))[j]?=some v→W.cell? ((a.add (i*4)).add j)=some v:=fun i hi j v hj=>by
   obtain ⟨_,hl4,hc⟩:=World.cells?_some (hE i hi).1
   have hj4:=lM hj
   rw [hc j hj4];exact hj
  refine ⟨some a,m,(List.range len).map E,by rw [hlen],?_,?_,by rw [hlen];exact hl,nofun,.inr ⟨_,_,congrArg Prod.fst hx,by simp,fun j e he=>?_⟩⟩
  ·by_cases h0:len=0
   ·subst h0;exact .inl rfl
   ·have hc0:=hcell 0 (by omega) 0 _ rfl
    have hsp:a=⟨a.block,a.off,none⟩:=by
     have:=mD hc0
     obtain ⟨b,o,s⟩:=a
     simp [Addr.add] at this ⊢
     exact this
    refine .inr ⟨a.block,a.off,by rw [← hsp],?_,fun j e he i v hv=>?_⟩
    ·have:=block_lt_of_cell hc0
     rw [hsp] at this
     simpa [Addr.add] using this
    ·rw [List.getElem?_map] at he
     obtain ⟨j',hj',rfl⟩:=Option.map_eq_some_iff.1 he
     obtain ⟨hjl,hjj⟩:=List.getElem?_eq_some_iff.1 hj'
     simp at hjl hjj
     subst hjj
     have:=hcell j hjl i v hv
     rw [hsp,Addr.add_lit,Addr.add_lit] at this
     exact this
  ·intro e he
   obtain ⟨i,hi,rfl⟩:=List.mem_map.1 he
   exact (hE i (List.mem_range.1 hi)).2.1
  ·rw [List.getElem?_map] at he
   obtain ⟨j',hj',rfl⟩:=Option.map_eq_some_iff.1 he
   obtain ⟨hjl,hjj⟩:=List.getElem?_eq_some_iff.1 hj'
   simp at hjl hjj
   subst hjj
   rw [← (hE j hjl).2.2]
   simp [hjl]
theorem uz {P:Program} {e:TypeId} {d:DataW H} {x:Nat}:∀ {ds:List (DataW H)},d∈ds→x∈d.weights P e→x∈DataW.weightsAll P e ds
 | y::r,h,hx=>by
  rw [DataW.weightsAll]
  rcases List.mem_cons.1 h with rfl | h
  ·exact List.mem_append.2 (.inl hx)
  ·exact List.mem_append.2 (.inr (uz h hx))
end Go.Proofs.YthfeoiffoeagkaaGreatDoor
