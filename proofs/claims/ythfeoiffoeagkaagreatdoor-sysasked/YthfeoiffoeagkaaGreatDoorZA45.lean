/-
  Calls as they come in as arguments.
-/
import Derived.Test.YthfeoiffoeagkaaGreatDoorZA35
import Derived.Test.YthfeoiffoeagkaaGreatDoorZA44
namespace Go.Proofs.YthfeoiffoeagkaaGreatDoor
open Go.ChangeShapes Go.WideShapes Go.ChangeAt Go.RowKit PM
set_option linter.unusedVariables false
set_option maxRecDepth 100000
variable {H:Type} {enc:TypeId × Value→H} {W:World}
instance:Inhabited Cl:=⟨⟨0,0,0,0,0,⟨#[]⟩,⟨#[]⟩,⟨#[]⟩,false⟩⟩
def xZ {H:Type} (c:Cl):DataW H:=.agg [.lit (.int .i64 c.kind),.lit (.int .i64 c.owner),.lit (.int .i64 c.fd),.lit (.int .i64 c.n),.lit (.int .i64 c.m),.lit (.string c.path.data.toList),.lit (.string c.to.data.toList),.lit (.string c.text.data.toList),.lit (.bool c.alone)]
theorem C8 {base:Nat} {spare:Nat→Bool} {held:Bool} {fuel:Nat} {cs:List Value} {x:DataW H × List MemPlace} (h:DataW.trod enc Tryz.prog W base spare held fuel 50 cs=some x) :
  ∃ c:Cl,cs=encC c∧x.1=xZ c:=by
 obtain ⟨xs,n,_,hx,hl,hlen,hf⟩:=DataW.trod_struct Tryz.underlying50 h
 have c9:Tryz.prog.cellsOf 9=1:=by kernel_rfl
 have c3:Tryz.prog.cellsOf 3=1:=by kernel_rfl
 have c4:Tryz.prog.cellsOf 4=1:=by kernel_rfl
 have cC:Tryz.prog.cellsOf 50=9:=by kernel_rfl
 rw [cC] at hl
 match xs,hlen,cs,hl with
 | [y0,y1,y2,y3,y4,y5,y6,y7,y8],_,[v0,v1,v2,v3,v4,v5,v6,v7,v8],_ =>
  have h0:=hf 0 _ rfl
  have h1:=hf 1 _ rfl
  have h2:=hf 2 _ rfl
  have h3:=hf 3 _ rfl
  have h4:=hf 4 _ rfl
  have h5:=hf 5 _ rfl
  have h6:=hf 6 _ rfl
  have h7:=hf 7 _ rfl
  have h8:=hf 8 _ rfl
  simp [c9,c3,c4] at h0 h1 h2 h3 h4 h5 h6 h7 h8
  obtain ⟨k0,e0,r0,_⟩:=DataW.trod_int Tryz.underlying3 h0
  obtain ⟨k1,e1,r1,_⟩:=DataW.trod_int Tryz.underlying3 h1
  obtain ⟨k2,e2,r2,_⟩:=DataW.trod_int Tryz.underlying3 h2
  obtain ⟨k3,e3,r3,_⟩:=DataW.trod_int Tryz.underlying3 h3
  obtain ⟨k4,e4,r4,_⟩:=DataW.trod_int Tryz.underlying3 h4
  obtain ⟨s5,e5,r5,_⟩:=DataW.trod_string Tryz.underlying9 h5
  obtain ⟨s6,e6,r6,_⟩:=DataW.trod_string Tryz.underlying9 h6
  obtain ⟨s7,e7,r7,_⟩:=DataW.trod_string Tryz.underlying9 h7
  obtain ⟨b8,e8,r8⟩:=DataW.trod_bool Tryz.underlying4 h8
  simp at e0 e1 e2 e3 e4 e5 e6 e7 e8
  subst e0 e1 e2 e3 e4 e5 e6 e7 e8
  refine ⟨⟨k0,k1,k2,k3,k4,s5,s6,s7,b8⟩,rfl,?_⟩
  rw [hx,r0,r1,r2,r3,r4,r5,r6,r7,r8]
  rfl
def CallsD {H:Type} (d:DataW H) (l:List Cl):Prop:=(d=.nil∧l=[])∨∃ elems spare,d=.slice elems spare∧elems.length=l.length∧∀ (j:Nat) c,l[j]?=some c→elems[j]?=some (xZ c)
theorem C9 {v:Value} {d:DataW H} {ps:List MemPlace} (h:DataW.Trod enc Tryz.prog W 0 (fun _=>true) true 27 v d ps) (hv:v.cells=#[v]) :
  ∃ (p:Option Addr) (cap:Nat) (l:List Cl),v=.slice p l.length cap∧fC W p l∧CallsD d l:=by
 obtain ⟨fuel,h⟩:=h
 rw [hv] at h
 have c38:Tryz.prog.cellsOf 50=9:=by kernel_rfl
 rcases Deep.open_slice Tryz.underlying27 h with ⟨h0,hx⟩ | ⟨a,len,cap,m,n,D,Pl,h0,hb,hl,hm,hmm,hx,hel⟩
 ·simp at h0
  subst h0
  have hd:d=.nil:=congrArg Prod.fst hx
  exact ⟨none,0,[],rfl,.inl rfl,.inl ⟨hd,rfl⟩⟩
 ·simp at h0
  subst h0
  have hm':m=cap:=by rw [hmm];rfl
  subst hm'
  rw [c38] at hel
  have hel':∀ i,i<len→∃ c:Cl,W.cells? 0 (a.add (i*9)) 9=some (encC c)∧D i=xZ c:=fun i hi=>by
   obtain ⟨cs',h1,h2⟩:=hel i (by omega)
   obtain ⟨c,rfl,h5⟩:=C8 h2
   exact ⟨c,h1,h5⟩
  obtain ⟨E,hE⟩:=Deep.choose_lt hel'
  have hlen:((List.range len).map E).length=len:=by simp
  have hcell:∀ i,i<len→∀ j v,(encC (E i))[j]?=some v→W.cell? ((a.add (i*9)).add j)=some v:=fun i hi j v hj=>by
   obtain ⟨_,hl4,hc⟩:=World.cells?_some (hE i hi).1
   have hj4:j<9:=(List.getElem?_eq_some_iff.1 hj).1
   rw [hc j hj4];exact hj
  refine ⟨some a,m,(List.range len).map E,by rw [hlen],?_,.inr ⟨_,_,congrArg Prod.fst hx,by simp,fun j e he=>?_⟩⟩
  ·by_cases h0:len=0
   ·subst h0;exact .inl rfl
   ·have hc0:=hcell 0 (by omega) 0 _ rfl
    have hsp:a=⟨a.block,a.off,none⟩:=by
     have:=mD hc0
     obtain ⟨b,o,s⟩:=a
     simp [Addr.add] at this ⊢
     exact this
    refine .inr ⟨a.block,a.off,by rw [← hsp],?_,fun j e he i v hv=>?_⟩
    ·have:=block_lt_of_cell hc0
     rw [hsp] at this
     simpa [Addr.add] using this
    ·rw [List.getElem?_map] at he
     obtain ⟨j',hj',rfl⟩:=Option.map_eq_some_iff.1 he
     obtain ⟨hjl,hjj⟩:=List.getElem?_eq_some_iff.1 hj'
     simp at hjl hjj
     subst hjj
     have:=hcell j hjl i v hv
     rw [hsp,Addr.add_lit,Addr.add_lit] at this
     exact this
  ·rw [List.getElem?_map] at he
   obtain ⟨j',hj',rfl⟩:=Option.map_eq_some_iff.1 he
   obtain ⟨hjl,hjj⟩:=List.getElem?_eq_some_iff.1 hj'
   simp at hjl hjj
   subst hjj
   rw [← (hE j hjl).2]
   simp [hjl]
theorem J8 {d:DataW H} {l:List Cl} (h:CallsD d l) (hw:∀ x∈d.weights Tryz.prog 27,x≤reachBytes):(∀ c∈l,c.Small)∧l.length≤140737488355328:=by
 have h47:reachBytes<140737488355328:=reachBytes_lt
 have hb:Tryz.prog.bytesOf 50=96:=by kernel_rfl
 rcases h with ⟨_,rfl⟩ | ⟨el,sp,rfl,hl,he⟩
 ·exact ⟨by intro e he;simp at he,by simp⟩
 ·simp only [DataW.weights,Tryz.underlying27] at hw
  refine ⟨fun c hm=>?_,?_⟩
  ·obtain ⟨j,hj⟩:=List.getElem?_of_mem hm
   have h1:∀ x∈(xZ (H:=H) c).weights Tryz.prog 50,x≤reachBytes:=fun x hx=>hw x (List.mem_cons_of_mem _ (List.mem_append.2 (.inl (uz (List.mem_of_getElem? (he j c hj)) hx))))
   simp [xZ,DataW.weights,DataW.weightsEach,Tryz.underlying50] at h1
   exact ⟨by show c.path.size≤_;omega,by show c.to.size≤_;omega,by show c.text.size≤_;omega⟩
  ·have:=hw _ (List.mem_cons_self ..)
   rw [hb] at this
   omega
end Go.Proofs.YthfeoiffoeagkaaGreatDoor
