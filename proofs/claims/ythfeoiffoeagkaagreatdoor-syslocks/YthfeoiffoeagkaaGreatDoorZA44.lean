/-
  A union as it comes in as an argument.
-/
import Derived.Test.YthfeoiffoeagkaaGreatDoorZA43
import Derived.Test.YthfeoiffoeagkaaGreatDoorZA12
namespace Go.Proofs.YthfeoiffoeagkaaGreatDoor
open Go.ChangeShapes Go.WideShapes Go.ChangeAt Go.RowKit PM
set_option linter.unusedVariables false
set_option maxRecDepth 100000
variable {H:Type} {enc:TypeId × Value→H} {W:World}
def BM {H:Type} (d:DataW H) (ls:List Lay):Prop:=(d=.nil∧ls=[])∨∃ elems spare,d=.slice elems spare∧elems.length=ls.length∧∀ (j:Nat) x,ls[j]?=some x→∃ dx,elems[j]?=some dx∧sG dx x.es
theorem zh {v:Value} {d:DataW H} {ps:List MemPlace} {fuel:Nat} (h:DataW.trod enc Tryz.prog W 0 (fun _=>true) true fuel 24 [v]=some (d,ps)) :
  ∃ (p:Option Addr) (cap:Nat) (ls:List Lay),v=.slice p ls.length cap∧dw W p ls∧(∀ x∈ls,Lies W x.ad x.es∧Fits x.es∧x.es.length≤x.cap∧(x.ad=none→x.cap=0))∧ls.length≤cap∧(p=none→cap=0)∧BM d ls:=by
 have c1:Tryz.prog.cellsOf 23=1:=by kernel_rfl
 rcases Deep.open_slice1 Tryz.underlying24 c1 h with ⟨h0,hx⟩ | ⟨a,len,cap,m,n,V,D,Pl,h0,hb,hl,hm,hmm,hx,hel⟩
 ·simp at h0
  subst h0
  have hd:d=.nil:=congrArg Prod.fst hx
  exact ⟨none,0,[],rfl,.inl rfl,by intro e he;simp at he,Nat.le_refl _,fun _=>rfl,.inl ⟨hd,rfl⟩⟩
 ·simp at h0
  subst h0
  have hm':m=cap:=by rw [hmm];rfl
  subst hm'
  have hel':∀ i,i<len→∃ x:Lay,W.cell? (a.add i)=some (.slice x.ad x.es.length x.cap)∧(Lies W x.ad x.es∧Fits x.es∧x.es.length≤x.cap∧(x.ad=none→x.cap=0))∧sG (D i) x.es:=fun i hi=>by
   obtain ⟨h1,h2⟩:=hel i (by omega)
   obtain ⟨p,c,t,hv',h3,h4,h5,h6,h7⟩:=vR h2
   exact ⟨⟨p,c,t⟩,by rw [h1,hv'],⟨h3,h4,h5,h6⟩,h7⟩
  obtain ⟨E,hE⟩:=Deep.choose_lt hel'
  have hlen:((List.range len).map E).length=len:=by simp
  refine ⟨some a,m,(List.range len).map E,by rw [hlen],?_,?_,by rw [hlen];exact hl,nofun,.inr ⟨_,_,congrArg Prod.fst hx,by simp,fun j e he=>?_⟩⟩
  ·by_cases h0:len=0
   ·subst h0;exact .inl rfl
   ·have hc0:=(hE 0 (by omega)).1
    have hsp:a=⟨a.block,a.off,none⟩:=by
     have:=mD hc0
     obtain ⟨b,o,s⟩:=a
     simp [Addr.add] at this ⊢
     exact this
    refine .inr ⟨a.block,a.off,by rw [← hsp],?_,fun j e he=>?_⟩
    ·have:=block_lt_of_cell hc0
     rw [hsp] at this
     simpa [Addr.add] using this
    ·rw [List.getElem?_map] at he
     obtain ⟨j',hj',rfl⟩:=Option.map_eq_some_iff.1 he
     obtain ⟨hjl,hjj⟩:=List.getElem?_eq_some_iff.1 hj'
     simp at hjl hjj
     subst hjj
     have:=(hE j hjl).1
     rw [hsp,Addr.add_lit] at this
     exact this
  ·intro e he
   obtain ⟨i,hi,rfl⟩:=List.mem_map.1 he
   exact (hE i (List.mem_range.1 hi)).2.1
  ·rw [List.getElem?_map] at he
   obtain ⟨j',hj',rfl⟩:=Option.map_eq_some_iff.1 he
   obtain ⟨hjl,hjj⟩:=List.getElem?_eq_some_iff.1 hj'
   simp at hjl hjj
   subst hjj
   exact ⟨D j,by simp [hjl],(hE j hjl).2.2⟩
theorem vS {v:Value} {d:DataW H} {ps:List MemPlace} {base:Nat} (hok:Value.okWide Tryz.prog W .any base 26 v) (h:DataW.Trod enc Tryz.prog W 0 (fun _=>true) true 26 v d ps) :
  ∃ (y:Lay) (ls:List Lay) (pl:Option Addr) (cl:Nat),v=.agg #[.slice y.ad y.es.length y.cap,.slice pl ls.length cl]∧(Lies W y.ad y.es∧Fits y.es∧y.es.length≤y.cap∧(y.ad=none→y.cap=0))∧dw W pl ls∧(∀ x∈ls,Lies W x.ad x.es∧Fits x.es∧x.es.length≤x.cap∧(x.ad=none→x.cap=0))∧ls.length≤cl∧(pl=none→cl=0) ∧
   ∃ d0 d1,d=.agg [d0,d1]∧sG d0 y.es∧BM d1 ls:=by
 obtain ⟨fuel,h⟩:=h
 obtain ⟨cs,rfl,_⟩:=okWide_struct Tryz.underlying26 hok
 obtain ⟨xs,n,_,hx,hl,hlen,hf⟩:=DataW.trod_struct Tryz.underlying26 h
 have cT:Tryz.prog.cellsOf 23=1:=by kernel_rfl
 have cL:Tryz.prog.cellsOf 24=1:=by kernel_rfl
 have cU:Tryz.prog.cellsOf 26=2:=by kernel_rfl
 match xs,hlen with
 | [y0,y1],_ =>
  have h0:=hf 0 _ rfl
  have h1:=hf 1 _ rfl
  rw [cU] at hl
  have hcl:cs.toList.length=2:=hl
  obtain ⟨a,b,hab⟩:∃ a b,cs=#[a,b]:=by
   obtain ⟨l⟩:=cs
   match l,hcl with
   | [a,b],_=>exact ⟨a,b,rfl⟩
  subst hab
  simp [cT,cL] at h0 h1
  obtain ⟨q0,q1⟩:=y0
  obtain ⟨q2,q3⟩:=y1
  obtain ⟨p,c,t,ha,g1,g2,g3,g4,g5⟩:=vR h0
  obtain ⟨pl,cl,ls,hb,k1,k2,k3,k4,k5⟩:=zh h1
  subst ha hb
  have hd:d=.agg [q0,q2]:=by
   have:=congrArg Prod.fst hx
   simpa using this
  exact ⟨⟨p,c,t⟩,ls,pl,cl,rfl,⟨g1,g2,g3,g4⟩,k1,k2,k3,k4,q0,q2,hd,g5,k5⟩
theorem vY {d:DataW H} {t:List Ent} (hD:sG d t) (h:∀ x∈d.weights Tryz.prog 23,x≤reachBytes):t.length<4611686018427387904:=by
 have hb:Tryz.prog.bytesOf 53=48:=by kernel_rfl
 rcases hD with ⟨_,h⟩ | ⟨el2,sp2,hdd,hl2,_⟩
 ·rw [h];decide
 ·have:=h ((el2.length+sp2.length)*Tryz.prog.bytesOf 53) (by rw [hdd];simp [DataW.weights,Tryz.underlying23])
  have h47:=reachBytes_lt
  rw [hb] at this
  omega
theorem zR {y:Lay} {ls:List Lay} {pl:Option Addr} {cl:Nat} {d0 d1:DataW H} (hy:Lies W y.ad y.es∧Fits y.es∧y.es.length≤y.cap∧(y.ad=none→y.cap=0)) (hT:dw W pl ls) (hOK:∀ x∈ls,Lies W x.ad x.es∧Fits x.es∧x.es.length≤x.cap∧(x.ad=none→x.cap=0)) (hcap:ls.length≤cl) (hnil:pl=none→cl=0) (hD0:sG d0 y.es) (hD1:BM d1 ls)
  (hw:∀ x∈(DataW.agg [d0,d1]).weights Tryz.prog 26,x≤reachBytes):UnOK W y ls pl cl:=by
 have w0:∀ x∈d0.weights Tryz.prog 23,x≤reachBytes:=fun x hx=>hw x (by simp [DataW.weights,DataW.weightsEach,Tryz.underlying26];exact .inl hx)
 have w1:∀ x∈d1.weights Tryz.prog 24,x≤reachBytes:=fun x hx=>hw x (by simp [DataW.weights,DataW.weightsEach,Tryz.underlying26];exact .inr hx)
 refine ⟨⟨hy.1,hy.2.1,hy.2.2.1,vY hD0 w0⟩,hy.2.2.2,hT,fun x hx=>?_,hnil,hcap⟩
 obtain ⟨g1,g2,g3,g4⟩:=hOK x hx
 refine ⟨⟨g1,g2,g3,?_⟩,g4⟩
 rcases hD1 with ⟨_,h⟩ | ⟨el,sp,hd,hle,he⟩
 ·rw [h] at hx;simp at hx
 ·obtain ⟨j,hj⟩:=List.getElem?_of_mem hx
  obtain ⟨dx,hdx,hD⟩:=he j x hj
  refine vY hD fun z hz=>w1 z ?_
  rw [hd]
  simp only [DataW.weights,Tryz.underlying24]
  exact List.mem_cons_of_mem _ (List.mem_append.2 (.inl (uz (List.mem_of_getElem? hdx) hz)))
end Go.Proofs.YthfeoiffoeagkaaGreatDoor
