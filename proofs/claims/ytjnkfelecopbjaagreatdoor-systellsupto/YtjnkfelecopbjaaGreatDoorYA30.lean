import Derived.Deep.DeepHandedRow
import Derived.Lib.SmallJoins
import Derived.Test.YtjnkfelecopbjaaGreatDoorRows
import Derived.Test.YtjnkfelecopbjaaGreatDoorYA21
open Go.Proofs.Tryz
open Go renaming Value->az,Addr->aJ
open _root_ renaming List->aB,Option->aC,Nat->aE
open Option renaming none->aN,some->aO
open Go.Proofs.Tryz renaming prog->aP
set_option linter.all false
set_option maxRecDepth 100000
namespace Go.Proofs.YtjnkfelecopbjaaGreatDoor
open Go.ChangeShapes Go.WideShapes Go.ChangeAt Go.RowKit PM
variable {H:Type}{enc:TypeId × az->H}{W:World}
theorem LW{aS:aE}{spare:aE->Bool}{held:Bool}{fuel:aE}{cs:aB az}{x:DataW H × aB MemPlace}(h:DataW.trod enc aP W aS spare held fuel 88 cs=aO x):∃ e:bP,cs=fy e/\e.bm.size<=maxLen/\e.text.size<=maxLen/\x.1=.agg [.lit (.string e.bm),.lit (.int .i64 e.bE),.lit (.string e.text),.lit (.bool e.opq)]:=by
 obtain⟨y0,y1,y2,y3,n,rfl,hl,h0,h1,h2,h3⟩:=Go.Joins.trod_struct4 underlying88 h;have c9:Tryz.prog.cellsOf 9=1:=by kernel_rfl
 have c3:Tryz.prog.cellsOf 3=1:=by kernel_rfl
 have c4:Tryz.prog.cellsOf 4=1:=by kernel_rfl
 have c38:Tryz.prog.cellsOf 88=4:=by kernel_rfl
 simp only[c9,c3,c4]at h0 h1 h2 h3;obtain⟨s,e0,rfl,hs⟩:=sL underlying9 h0;obtain⟨k,e1,rfl,_⟩:=sK underlying3 h1;obtain⟨u,e2,rfl,hu⟩:=sL underlying9 h2;obtain⟨b,e3,rfl⟩:=DataW.trod_bool underlying4 h3;rw[c38]at hl
 match cs,hl with
 | [v0,v1,v2,v3],_ =>simp at e0 e1 e2 e3;subst e0 e1 e2 e3;exact⟨⟨s,k,u,b⟩,rfl,hs,hu,rfl⟩
theorem vS{a:aJ}{v:az}(h:W.cell? a=aO v):a=⟨a.block,a.off,aN⟩:=by
 obtain⟨b,o,s⟩:=a;cases s with
 | none=>rfl
 | some x=>
  simp only[World.cell?]at h;split at h
  ·simp at h
  ·cases h
end Go.Proofs.YtjnkfelecopbjaaGreatDoor
namespace Go.Proofs.YtjnkfelecopbjaaGreatDoor
open Go.ChangeShapes Go.WideShapes Go.ChangeAt Go.RowKit PM
variable {H:Type}{enc:TypeId × az->H}{W:World}
def Rm{H:Type}(e:bP):DataW H:=.agg [.lit (.string e.bm),.lit (.int .i64 e.bE),.lit (.string e.text),.lit (.bool e.opq)]
theorem Q7(e:bP):Rows.uptoBulk (Rm (H:=H) e)=e.bm.size+e.text.size+5:=by simp only[Rm,Rows.uptoBulk,Rows.uptoBulkAll,PM.ix];omega
theorem yQ{d:DataW H}:∀ {ds:aB (DataW H)},d∈ds->Rows.uptoBulk d<=Rows.uptoBulkAll ds
 | x::r,h=>by
  rw[Rows.uptoBulkAll];rcases cX.1 h with rfl|h
  ·omega
  ·have:=yQ h
   omega
theorem Q8:∀ (d:DataW H),1<=Rows.uptoBulk d
 | .lit (.string _)=>by simp[Rows.uptoBulk]
 | .lit (.bool _)=>by simp[Rows.uptoBulk]
 | .lit (.int _ _)=>by simp[Rows.uptoBulk]
 | .lit (.float _ _)=>by simp[Rows.uptoBulk]
 | .lit .nil=>by simp[Rows.uptoBulk]
 | .nil=>by simp[Rows.uptoBulk]
 | .ptr d=>by simp[Rows.uptoBulk]
 | .slice _ _=>by simp[Rows.uptoBulk]
 | .agg _=>by simp[Rows.uptoBulk]
 | .iface _ _=>by simp[Rows.uptoBulk]
 | .map _=>by simp[Rows.uptoBulk]
 | .held _=>by simp[Rows.uptoBulk]
theorem Hz:∀ (ds:aB (DataW H)),ds.length<=Rows.uptoBulkAll ds
 | []=>aV _
 | d::r=>by have h1:=Q8 d;have h2:=Hz r;rw[Rows.uptoBulkAll,cj];omega
theorem DH{d:DataW H}{t:aB bP}(h:(d=.nil/\t=[])\/∃ elems spare,d=.slice elems spare/\elems.length=t.length/\∀ (j:aE) e,t[j]?=aO e->elems[j]?=aO (Rm e))(hb:Rows.uptoBulk d<=1048576):(∀ e∈t,e.bm.size<=1048576/\e.text.size<=1048576)/\t.length<=1048576:=by
 rcases h with⟨_,rfl⟩|⟨el,sp,rfl,hl,he⟩
 ·exact⟨by intro e he;simp at he,by simp⟩
 ·simp only[Rows.uptoBulk]at hb
  refine⟨fun e hm=>?_,?_⟩
  ·obtain⟨j,hj⟩:=tN hm
   have h1:=yQ (bw (he j e hj));rw[Q7]at h1;omega
  ·have:=Hz el
   omega
end Go.Proofs.YtjnkfelecopbjaaGreatDoor
namespace Go.Proofs.YtjnkfelecopbjaaGreatDoor
open Go.ChangeShapes Go.WideShapes Go.ChangeAt Go.RowKit PM
variable {H:Type}{enc:TypeId × az->H}{W:World}
instance:Inhabited Lay:=⟨⟨aN,0,[]⟩⟩
def EH{H:Type}(d:DataW H)(t:aB bP):Prop:=(d=.nil/\t=[])\/∃ elems spare,d=.slice elems spare/\elems.length=t.length/\∀ (j:aE) e,t[j]?=aO e->elems[j]?=aO (Rm e)
theorem Ds{v:az}{d:DataW H}{ps:aB MemPlace}{fuel:aE}(h:DataW.trod enc aP W 0 (fun _=>true) true fuel 23 [v]=aO (d,ps)):∃ (p:aC aJ) (cap:aE) (t:aB bP),v=.slice p t.length cap/\bI W p t/\anM t/\t.length<=cap/\(p=aN->cap=0)/\EH d t:=by
 have c38:Tryz.prog.cellsOf 88=4:=by kernel_rfl
 rcases Deep.open_slice underlying23 h with⟨h0,hx⟩|⟨a,len,cap,m,n,D,Pl,h0,hb,hl,hm,hmm,hx,Uu⟩
 ·simp at h0
  subst h0;have hd:d=.nil:=congrArg Prod.fst hx;exact⟨aN,0,[],rfl,bI.nil _ _,by intro e he;simp at he,aV _,fun _=>rfl,.inl ⟨hd,rfl⟩⟩
 ·simp at h0
  subst h0;have O8:m=cap:=by rw[hmm];rfl
  subst O8;rw[c38]at Uu;have R4:∀ i,i<len->∃ e:bP,W.cells? 0 (a.add (i*4)) 4=aO (fy e)/\(e.bm.size<=maxLen/\e.text.size<=maxLen)/\D i=Rm e:=fun i hi=>by obtain⟨cs',h1,h2⟩:=Uu i (by omega);obtain⟨e,rfl,h3,h4,h5⟩:=LW h2;exact⟨e,h1,⟨h3,h4⟩,h5⟩
  obtain⟨E,hE⟩:=Deep.choose_lt R4;have hlen:((List.range len).map E).length=len:=by simp
  have hcell:∀ i,i<len->∀ j v,(fy (E i))[j]?=aO v->W.cell? ((a.add (i*4)).add j)=aO v:=fun i hi j v hj=>by obtain⟨_,hl4,hc⟩:=World.cells?_some (hE i hi).1;have hj4:=tU hj;rw[hc j hj4];exact hj
  refine⟨aO a,m,(List.range len).map E,by rw[hlen],?_,?_,by rw[hlen];exact hl,nofun,.inr ⟨_,_,congrArg Prod.fst hx,by simp,fun j e he=>?_⟩⟩
  ·by_cases h0:len=0
   ·subst h0;exact .inl rfl
   ·have IE:=hcell 0 (by omega) 0 _ rfl
    have qt:a=⟨a.block,a.off,aN⟩:=by have:=vS IE;obtain⟨b,o,s⟩:=a;simp[Addr.add]at this ⊢;exact this
    refine .inr ⟨a.block,a.off,by rw[<- qt],?_,fun j e he i v hv=>?_⟩
    ·have:=bg IE
     rw[qt]at this;simpa[Addr.add]using this
    ·rw[cD]at he
     obtain⟨j',Ns,rfl⟩:=dM.1 he;obtain⟨vK,IH⟩:=aQ.1 Ns;simp at vK IH;subst IH;have:=hcell j vK i v hv;rw[qt,dG,dG]at this;exact this
  ·intro e he
   obtain⟨i,hi,rfl⟩:=fT.1 he;exact(hE i (List.mem_range.1 hi)).2.1
  ·rw[cD]at he
   obtain⟨j',Ns,rfl⟩:=dM.1 he;obtain⟨vK,IH⟩:=aQ.1 Ns;simp at vK IH;subst IH;rw[<- (hE j vK).2.2];simp[vK]
theorem BB{P:Program}{e:TypeId}{d:DataW H}{x:aE}:∀ {ds:aB (DataW H)},d∈ds->x∈d.weights P e->x∈DataW.weightsAll P e ds
 | y::r,h,hx=>by
  rw[DataW.weightsAll];rcases cX.1 h with rfl|h
  ·exact bZ.2 (.inl hx)
  ·exact bZ.2 (.inr (BB h hx))
end Go.Proofs.YtjnkfelecopbjaaGreatDoor
namespace Go.Proofs.YtjnkfelecopbjaaGreatDoor
open Go.ChangeShapes Go.WideShapes Go.ChangeAt Go.RowKit PM
variable {H:Type}{enc:TypeId × az->H}{W:World}
def QS{H:Type}(d:DataW H)(ls:aB Lay):Prop:=(d=.nil/\ls=[])\/∃ elems spare,d=.slice elems spare/\elems.length=ls.length/\∀ (j:aE) x,ls[j]?=aO x->∃ dx,elems[j]?=aO dx/\EH dx x.es
theorem Gu{v:az}{d:DataW H}{ps:aB MemPlace}{fuel:aE}(h:DataW.trod enc aP W 0 (fun _=>true) true fuel 24 [v]=aO (d,ps)):∃ (p:aC aJ) (cap:aE) (ls:aB Lay),v=.slice p ls.length cap/\gj W p ls/\(∀ x∈ls,bI W x.ad x.es/\anM x.es/\x.es.length<=x.cap/\(x.ad=aN->x.cap=0))/\ls.length<=cap/\(p=aN->cap=0)/\QS d ls:=by
 have c1:Tryz.prog.cellsOf 23=1:=by kernel_rfl
 rcases Deep.open_slice1 underlying24 c1 h with⟨h0,hx⟩|⟨a,len,cap,m,n,V,D,Pl,h0,hb,hl,hm,hmm,hx,Uu⟩
 ·simp at h0
  subst h0;have hd:d=.nil:=congrArg Prod.fst hx;exact⟨aN,0,[],rfl,.inl rfl,by intro e he;simp at he,aV _,fun _=>rfl,.inl ⟨hd,rfl⟩⟩
 ·simp at h0
  subst h0;have O8:m=cap:=by rw[hmm];rfl
  subst O8;have R4:∀ i,i<len->∃ x:Lay,W.cell? (a.add i)=aO (.slice x.ad x.es.length x.cap)/\(bI W x.ad x.es/\anM x.es/\x.es.length<=x.cap/\(x.ad=aN->x.cap=0))/\EH (D i) x.es:=fun i hi=>by obtain⟨h1,h2⟩:=Uu i (by omega);obtain⟨p,c,t,yE,h3,h4,h5,h6,h7⟩:=Ds h2;exact⟨⟨p,c,t⟩,by rw[h1,yE],⟨h3,h4,h5,h6⟩,h7⟩
  obtain⟨E,hE⟩:=Deep.choose_lt R4;have hlen:((List.range len).map E).length=len:=by simp
  refine⟨aO a,m,(List.range len).map E,by rw[hlen],?_,?_,by rw[hlen];exact hl,nofun,.inr ⟨_,_,congrArg Prod.fst hx,by simp,fun j e he=>?_⟩⟩
  ·by_cases h0:len=0
   ·subst h0;exact .inl rfl
   ·have IE:=(hE 0 (by omega)).1
    have qt:a=⟨a.block,a.off,aN⟩:=by have:=vS IE;obtain⟨b,o,s⟩:=a;simp[Addr.add]at this ⊢;exact this
    refine .inr ⟨a.block,a.off,by rw[<- qt],?_,fun j e he=>?_⟩
    ·have:=bg IE
     rw[qt]at this;simpa[Addr.add]using this
    ·rw[cD]at he
     obtain⟨j',Ns,rfl⟩:=dM.1 he;obtain⟨vK,IH⟩:=aQ.1 Ns;simp at vK IH;subst IH;have:=(hE j vK).1;rw[qt,dG]at this;exact this
  ·intro e he
   obtain⟨i,hi,rfl⟩:=fT.1 he;exact(hE i (List.mem_range.1 hi)).2.1
  ·rw[cD]at he
   obtain⟨j',Ns,rfl⟩:=dM.1 he;obtain⟨vK,IH⟩:=aQ.1 Ns;simp at vK IH;subst IH;exact⟨D j,by simp[vK],(hE j vK).2.2⟩
theorem LX{v:az}{d:DataW H}{ps:aB MemPlace}{aS:aE}(lH:Value.okWide aP W .any aS 26 v)(h:DataW.Trod enc aP W 0 (fun _=>true) true 26 v d ps):∃ (y:Lay) (ls:aB Lay) (pl:aC aJ) (cl:aE),v=.agg #[.slice y.ad y.es.length y.cap,.slice pl ls.length cl]/\(bI W y.ad y.es/\anM y.es/\y.es.length<=y.cap/\(y.ad=aN->y.cap=0))/\gj W pl ls/\(∀ x∈ls,bI W x.ad x.es/\anM x.es/\x.es.length<=x.cap/\(x.ad=aN->x.cap=0))/\ls.length<=cl/\(pl=aN->cl=0) /\
   ∃ d0 d1,d=.agg [d0,d1]/\EH d0 y.es/\QS d1 ls:=by
 obtain⟨fuel,h⟩:=h;obtain⟨cs,rfl,_⟩:=okWide_struct underlying26 lH;obtain⟨xs,n,_,hx,hl,hlen,hf⟩:=DataW.trod_struct underlying26 h;have cT:Tryz.prog.cellsOf 23=1:=by kernel_rfl
 have cL:Tryz.prog.cellsOf 24=1:=by kernel_rfl
 have cU:Tryz.prog.cellsOf 26=2:=by kernel_rfl
 match xs,hlen with
 | [y0,y1],_=>
  have h0:=hf 0 _ rfl;have h1:=hf 1 _ rfl;rw[cU]at hl;have mz:cs.toList.length=2:=hl;obtain⟨a,b,C0⟩:∃ a b,cs=#[a,b]:=by
   obtain⟨l⟩:=cs
   match l,mz with
   | [a,b],_=>exact⟨a,b,rfl⟩
  subst C0;simp[cT,cL]at h0 h1;obtain⟨q0,q1⟩:=y0;obtain⟨q2,q3⟩:=y1;obtain⟨p,c,t,ha,g1,g2,g3,g4,g5⟩:=Ds h0;obtain⟨pl,cl,ls,hb,k1,k2,k3,k4,k5⟩:=Gu h1;subst ha hb;have hd:d=.agg [q0,q2]:=by have:=congrArg Prod.fst hx;simpa using this
  exact⟨⟨p,c,t⟩,ls,pl,cl,rfl,⟨g1,g2,g3,g4⟩,k1,k2,k3,k4,q0,q2,hd,g5,k5⟩
theorem DE{d:DataW H}{t:aB bP}(hD:EH d t)(h:∀ x∈d.weights aP 23,x<=reachBytes):t.length<4611686018427387904:=by
 have hb:Tryz.prog.bytesOf 88=48:=by kernel_rfl
 rcases hD with⟨_,h⟩|⟨el2,sp2,hdd,Sf,_⟩
 ·rw[h];decide
 ·have:=h ((el2.length+sp2.length)*Tryz.prog.bytesOf 88) (by rw[hdd];simp[DataW.weights,underlying23])
  have h47:=reachBytes_lt;rw[hb]at this;omega
theorem TZ{y:Lay}{ls:aB Lay}{pl:aC aJ}{cl:aE}{d0 d1:DataW H}(hy:bI W y.ad y.es/\anM y.es/\y.es.length<=y.cap/\(y.ad=aN->y.cap=0))(hT:gj W pl ls)(zd:∀ x∈ls,bI W x.ad x.es/\anM x.es/\x.es.length<=x.cap/\(x.ad=aN->x.cap=0))(ir:ls.length<=cl)(iR:pl=aN->cl=0)(hD0:EH d0 y.es)(hD1:QS d1 ls)(hw:∀ x∈(DataW.agg [d0,d1]).weights aP 26,x<=reachBytes):eZ W y ls pl cl:=by
 have w0:∀ x∈d0.weights aP 23,x<=reachBytes:=fun x hx=>hw x (by simp[DataW.weights,DataW.weightsEach,underlying26];exact .inl hx)
 have w1:∀ x∈d1.weights aP 24,x<=reachBytes:=fun x hx=>hw x (by simp[DataW.weights,DataW.weightsEach,underlying26];exact .inr hx)
 refine⟨⟨hy.1,hy.2.1,hy.2.2.1,DE hD0 w0⟩,hy.2.2.2,hT,fun x hx=>?_,iR,ir⟩;obtain⟨g1,g2,g3,g4⟩:=zd x hx;refine⟨⟨g1,g2,g3,?_⟩,g4⟩;rcases hD1 with⟨_,h⟩|⟨el,sp,hd,hle,he⟩
 ·rw[h]at hx;simp at hx
 ·obtain⟨j,hj⟩:=tN hx
  obtain⟨dx,hdx,hD⟩:=he j x hj;refine DE hD fun z hz=>w1 z ?_
  rw[hd];simp only[DataW.weights,underlying24];exact jc _ (bZ.2 (.inl (BB (bw hdx) hz)))
end Go.Proofs.YtjnkfelecopbjaaGreatDoor
namespace Go.Proofs.YtjnkfelecopbjaaGreatDoor
open Go.ChangeShapes Go.WideShapes Go.ChangeAt Go.RowKit PM
variable {H:Type}{enc:TypeId × az->H}{W:World}
instance:Inhabited Cl:=⟨⟨0,0,0,0,0,⟨#[]⟩,⟨#[]⟩,⟨#[]⟩,false⟩⟩
def M8{H:Type}(c:Cl):DataW H:=.agg [.lit (.int .i64 c.bE),.lit (.int .i64 c.owner),.lit (.int .i64 c.fd),.lit (.int .i64 c.n),.lit (.int .i64 c.m),.lit (.string c.bm),.lit (.string c.tw),.lit (.string c.text),.lit (.bool c.alone)]
theorem LU{aS:aE}{spare:aE->Bool}{held:Bool}{fuel:aE}{cs:aB az}{x:DataW H × aB MemPlace}(h:DataW.trod enc aP W aS spare held fuel 51 cs=aO x):∃ c:Cl,cs=OA c/\x.1=M8 c:=by
 obtain⟨xs,n,_,hx,hl,hlen,hf⟩:=DataW.trod_struct underlying51 h;have c9:Tryz.prog.cellsOf 9=1:=by kernel_rfl
 have c3:Tryz.prog.cellsOf 3=1:=by kernel_rfl
 have c4:Tryz.prog.cellsOf 4=1:=by kernel_rfl
 have cC:Tryz.prog.cellsOf 51=9:=by kernel_rfl
 rw[cC]at hl
 match xs,hlen,cs,hl with
 | [y0,y1,y2,y3,y4,y5,y6,y7,y8],_,[v0,v1,v2,v3,v4,v5,v6,v7,v8],_ =>have h0:=hf 0 _ rfl;have h1:=hf 1 _ rfl;have h2:=hf 2 _ rfl;have h3:=hf 3 _ rfl;have h4:=hf 4 _ rfl;have h5:=hf 5 _ rfl;have h6:=hf 6 _ rfl;have h7:=hf 7 _ rfl;have h8:=hf 8 _ rfl;simp[c9,c3,c4]at h0 h1 h2 h3 h4 h5 h6 h7 h8;obtain⟨k0,e0,r0,_⟩:=sK underlying3 h0;obtain⟨k1,e1,r1,_⟩:=sK underlying3 h1;obtain⟨k2,e2,r2,_⟩:=sK underlying3 h2;obtain⟨k3,e3,r3,_⟩:=sK underlying3 h3;obtain⟨k4,e4,r4,_⟩:=sK underlying3 h4;obtain⟨s5,e5,r5,_⟩:=sL underlying9 h5;obtain⟨s6,e6,r6,_⟩:=sL underlying9 h6;obtain⟨s7,e7,r7,_⟩:=sL underlying9 h7;obtain⟨b8,e8,r8⟩:=DataW.trod_bool underlying4 h8;simp at e0 e1 e2 e3 e4 e5 e6 e7 e8;subst e0 e1 e2 e3 e4 e5 e6 e7 e8;refine⟨⟨k0,k1,k2,k3,k4,s5,s6,s7,b8⟩,rfl,?_⟩;rw[hx,r0,r1,r2,r3,r4,r5,r6,r7,r8];rfl
def CallsD{H:Type}(d:DataW H)(l:aB Cl):Prop:=(d=.nil/\l=[])\/∃ elems spare,d=.slice elems spare/\elems.length=l.length/\∀ (j:aE) c,l[j]?=aO c->elems[j]?=aO (M8 c)
theorem LV{v:az}{d:DataW H}{ps:aB MemPlace}(h:DataW.Trod enc aP W 0 (fun _=>true) true 27 v d ps)(hv:v.cells=#[v]):∃ (p:aC aJ) (cap:aE) (l:aB Cl),v=.slice p l.length cap/\vu W p l/\CallsD d l:=by
 obtain⟨fuel,h⟩:=h;rw[hv]at h;have c38:Tryz.prog.cellsOf 51=9:=by kernel_rfl
 rcases Deep.open_slice underlying27 h with⟨h0,hx⟩|⟨a,len,cap,m,n,D,Pl,h0,hb,hl,hm,hmm,hx,Uu⟩
 ·simp at h0
  subst h0;have hd:d=.nil:=congrArg Prod.fst hx;exact⟨aN,0,[],rfl,.inl rfl,.inl ⟨hd,rfl⟩⟩
 ·simp at h0
  subst h0;have O8:m=cap:=by rw[hmm];rfl
  subst O8;rw[c38]at Uu;have R4:∀ i,i<len->∃ c:Cl,W.cells? 0 (a.add (i*9)) 9=aO (OA c)/\D i=M8 c:=fun i hi=>by obtain⟨cs',h1,h2⟩:=Uu i (by omega);obtain⟨c,rfl,h5⟩:=LU h2;exact⟨c,h1,h5⟩
  obtain⟨E,hE⟩:=Deep.choose_lt R4;have hlen:((List.range len).map E).length=len:=by simp
  have hcell:∀ i,i<len->∀ j v,(OA (E i))[j]?=aO v->W.cell? ((a.add (i*9)).add j)=aO v:=fun i hi j v hj=>by obtain⟨_,hl4,hc⟩:=World.cells?_some (hE i hi).1;have hj4:j<9:=(aQ.1 hj).1;rw[hc j hj4];exact hj
  refine⟨aO a,m,(List.range len).map E,by rw[hlen],?_,.inr ⟨_,_,congrArg Prod.fst hx,by simp,fun j e he=>?_⟩⟩
  ·by_cases h0:len=0
   ·subst h0;exact .inl rfl
   ·have IE:=hcell 0 (by omega) 0 _ rfl
    have qt:a=⟨a.block,a.off,aN⟩:=by have:=vS IE;obtain⟨b,o,s⟩:=a;simp[Addr.add]at this ⊢;exact this
    refine .inr ⟨a.block,a.off,by rw[<- qt],?_,fun j e he i v hv=>?_⟩
    ·have:=bg IE
     rw[qt]at this;simpa[Addr.add]using this
    ·rw[cD]at he
     obtain⟨j',Ns,rfl⟩:=dM.1 he;obtain⟨vK,IH⟩:=aQ.1 Ns;simp at vK IH;subst IH;have:=hcell j vK i v hv;rw[qt,dG,dG]at this;exact this
  ·rw[cD]at he
   obtain⟨j',Ns,rfl⟩:=dM.1 he;obtain⟨vK,IH⟩:=aQ.1 Ns;simp at vK IH;subst IH;rw[<- (hE j vK).2];simp[vK]
