import Derived.Test.YtjnkfelecopbjaaGreatDoorYA18
open Go.Value renaming slice->ah,string->ai,bool->aq,agg->ar
open Go renaming Aside->ax,Calls->ay,Value->az,Addr->aJ
open _root_ renaming ByteArray->aA,List->aB,Option->aC
open Bool renaming false->aH
open Go.Proofs.Tryz renaming prog->aP
set_option linter.all false
set_option maxHeartbeats 8000000
set_option maxRecDepth 100000
namespace Go.Proofs.YtjnkfelecopbjaaGreatDoor
open Go.RowKit PM Go.Sort
variable{t:TypeId}{w wx:World}
def Bx(w:World)(vs:Array az)(t:TypeId)(wx:World):Prop:=Below w w wx/\wx.heap[w.heap.size]?=some (.cells vs t (0,0))
theorem Bx.new(w:World)(vs:Array az)(t:TypeId):Bx w vs t (w.alloc (.cells vs t)):=⟨(aR _ _).alloc (aV _) _,heap_alloc_last w _⟩
theorem Bx.on{wy:World}{vs:Array az}(h:Bx w vs t wx)(hB:Below wx wx wy):Bx w vs t wy:=⟨Below.bK h.1 hB,(hB.block _ (aX.1 h.2).1).trans h.2⟩
theorem Bx.box{vs:Array az}(h:Bx w vs t wx)(o:Obj):Bx w vs t (wx.alloc o):=h.on ((aR _ _).alloc (aV _) _)
theorem Bx.cells{a b c d:az}(h:Bx w #[a,b,c,d] t wx):(wx.cell? w=some a/\wx.cell? ⟨w,1,none⟩=some b/\wx.cell? ⟨w,2,none⟩=some c/\wx.cell? ⟨w,3,none⟩=some d)/\wx.frozen? ⟨w,3,none⟩=aH/\w.heap.size<wx.heap.size:=⟨(cK h.2).1,(cK h.2).2.2.2.2,(aX.1 h.2).1⟩
theorem Bx.set{a b c d:az}(h:Bx w #[a,b,c,d] t wx)(v:az):Bx w #[a,b,c,v] t (wx.setCell ⟨w,3,none⟩ v):=⟨h.1.setCell (p:=⟨w,3,none⟩) (aV _) v,by simpa using dZ h.2 3 v⟩
theorem vR{W:World}{p:aC aJ}{l:aB bP}(h:bI W p l)(a:aJ)(v:az)(hne:l=[]\/∀ b off s,p=some ⟨b,off,s⟩->b≠a.block):bI (W.setCell a v) p l:=by
 rcases h with h|⟨b,off,rfl,hb,hc⟩
 ·exact .inl h
 ·rcases hne with h|hne
  ·exact .inl h
  ·refine .inr ⟨b,off,rfl,by simpa[World.setCell]using hb,fun j e hj i u hu=>?_⟩
   rw[cN (h:=fun e=>hne b off none rfl (congrArg Addr.block e).symm)];exact hc j e hj i u hu
theorem TJ(own l1 R:aB bP)(n1:Nat)(Ge:n1=l1.length)(ep et:aA)(ek:Int)(p:aC aJ)(n cap:Nat)(w:World)(xp xt zp zt:aA)(xk zk:Int)(xo zo bx bz bb cc oo:Bool)(hL:bI w p own)(Gh:ep.size<=1048576)(ly:∀ W (d:aA),d.data.toList=(kd ep).1->Below w w W->ay aP 31 #[ah p n cap,ai d] W fun r w'=>r=.returned (.tuple #[ar #[ai xp,.int .i64 xk,ai xt,aq xo],aq bx])/\Below W.heap.size W w')(Gg:bb=true->∀ W (d:aA),d.data.toList=(kd ep).1->Below w w W->ay aP 61 #[ah p n cap,ar #[ai d,.int .i64 2,ai ⟨#[]⟩,aq aH]] W (iq l1 W))(hno:bb=aH->n1=n/\l1=own)(gI:∀ W p1 c1,bI W p1 l1->ay aP 31 #[ah p1 n1 c1,ai ep] W fun r w'=>r=.returned (.tuple #[ar #[ai zp,.int .i64 zk,ai zt,aq zo],aq bz])/\Below W.heap.size W w')(D2:∀ W p1 c1,bI W p1 l1->ay aP 100 #[ah p1 n1 c1,ar #[ai ep,.int .i64 ek,ai et,aq oo]] W (iq R W))(pN:∀ d:aA,d.data.toList=(kd ep).1->bb=(!d.toList.isEmpty && (!bx || (xk != 2))))(pj:cc=(bz && (ek == 2)))(hoo:oo=(cc && (zo || (zk == 4)))):ay aP 61 #[ah p n cap,ar #[ai ep,.int .i64 ek,ai et,aq aH]] w (iq R w):=by
 have HX:ax (Bx w _ _ _):=Bx.new w #[ai ep,.int .i64 ek,ai et,aq aH] 88;have oF:=fun Y=>kF ep Y (by omega)
 have HP:ax (bI w p own/\n1=l1.length/\(bb=aH->n1=n/\l1=own)):=⟨hL,Ge,hno⟩
 have HC:ax (cc=(bz && (ek == 2))/\oo=(cc && (zo || (zk == 4)))):=⟨pj,hoo⟩
 clear Ge hno hL pj hoo;go_enter Tryz.func61,Tryz.ntmps61;go_upto_region 3 with(first
  | (go_at_call 51;refine(oF _).mono ?_;clear oF;rintro rr w1 ⟨⟨d,nm,rfl,hd,xG⟩,hG⟩;replace HX:ax (Bx w _ _ _):=HX.on hG.below;clear xG hG)
  | (go_at_call 31;refine(ly _ d hd HX.1).mono ?_;clear ly;rintro rr w2 ⟨rfl,hN⟩;replace HX:ax (Bx w _ _ _):=(HX.on hN).box (.cells #[ai xp,.int .i64 xk,ai xt,aq xo] 88);clear hN))
 have UN:ax (_=_):=pN d hd;go_cut [33]from 23 to 32 (fun x wx=>x=aq bb/\wx=w2.alloc (.cells #[ai xp,.int .i64 xk,ai xt,aq xo] 88))
 case first=>
  cases bx;all_goals
   go_wp2_with fail;all_goals
    go_meet
    case rel=>exact⟨by rw[UN.out];simp[*],rfl⟩
 obtain⟨rfl,rfl⟩:=hcut;go_upto_if 33 with fail
 go_cut [0]from 34 to 37 (fun v wx=>∃ p1 c1,v=ah p1 n1 c1/\ax ((bI wx p1 l1/\(l1=[]\/∀ b off s,p1=some ⟨b,off,s⟩->b≠w.heap.size))/\Bx w #[ai ep,.int .i64 ek,ai et,aq aH] 88 wx))
 case first=>
  cases bb
  ·obtain⟨rfl,rfl⟩:=HP.2.2 rfl
   go_wp2_with fail;go_meet
   case rel=>exact⟨p,cap,rfl,⟨HP.1.bB HX.1,HP.1.imp id fun⟨b,off,e,hb,_⟩ b' off' s' e'=>by rw[e]at e';cases e';omega⟩,HX.out⟩
  ·go_wp2_with (go_at_call 61;refine(Gg rfl _ d hd HX.1).mono ?_;clear Gg;rintro rr w3 ⟨⟨v3,rfl,hR⟩,hN⟩;obtain⟨p3,c3,rfl,pK,_,_,zf⟩:=qm HP.2.1 hR;have H3:ax ((bI w3 p3 l1/\(l1=[]\/∀ b off s,p3=some ⟨b,off,s⟩->b≠w.heap.size))/\Bx w _ _ w3):=⟨⟨pK,.inr fun b off s e=>by have:=zf b off s e;have:=HX.cells.2.2;omega⟩,HX.on hN⟩;clear hR hN pK zf)
   go_meet
   case rel=>exact⟨p3,c3,rfl,H3.out⟩
 obtain⟨p1,c1,rfl,H1⟩:=hcut;clear HX Gg pN UN hd HP;obtain⟨⟨q0,q1,q2,q3⟩,qf,ql⟩:=H1.2.cells;have x7:=gI wc p1 c1 H1.1.1;clear gI;go_upto_region 6 with(go_at_call 31;refine x7.mono ?_;clear x7;rintro rr w4 ⟨rfl,hN⟩;have H4:ax (bI w4 p1 l1/\Bx w _ _ w4):=⟨H1.1.1.bB hN,H1.2.on hN⟩;clear q0 q1 q2 q3 qf ql hN;obtain⟨⟨q0,q1,q2,q3⟩,qf,ql⟩:=H4.2.cells)
 have sn:w.heap.size≠w4.heap.size:=by omega
 have sn':=sn.symm;go_cut [50]from 45 to 49 (fun x wx=>x=aq cc/\wx=w4.alloc (.cells #[ai zp,.int .i64 zk,ai zt,aq zo] 88))
 case first=>
  cases bz;all_goals
   go_wp2_with fail;all_goals
    go_meet
    case rel=>exact⟨by rw[HC.1];simp[*],rfl⟩
 obtain⟨rfl,rfl⟩:=hcut;go_upto_if 50 with fail
 go_cut []from 51 to 58 (fun wx=>ax (bI wx p1 l1/\Bx w #[ai ep,.int .i64 ek,ai et,aq oo] 88 wx))
 case first=>
  cases cc
  ·go_wp2_with fail
   go_meet
   case rel=>exact⟨H4.1.bB ((aR _ _).alloc (aV _) _),by rw[HC.2];exact H4.2.box _⟩
  ·cases zo
   all_goals
    go_wp2_with fail;go_meet
    case rel=>exact⟨(vR H4.1 ⟨w,3,none⟩ _ H1.1.2).bB ((aR _ _).alloc (aV _) _),by rw[HC.2];exact(H4.2.set _).box _⟩
 obtain⟨⟨q0,q1,q2,q3⟩,qf,ql⟩:=hcut.2.cells;have qM:=D2 wc p1 c1 hcut.1;go_wp2_with (go_at_call 100;refine qM.mono ?_;clear qM;rintro rr w5 ⟨⟨v5,rfl,hR⟩,hN⟩;have H5:ax (iq R w (.returned v5) w5):=⟨⟨v5,rfl,hR.mono hcut.2.1.size⟩,Below.bK hcut.2.1 hN⟩;clear hR hN);go_ret;exact H5.out
theorem ER(own:aB bP)(e:bP):(nG own e).bm=e.bm:=by unfold nG;split<;>rfl
theorem TI:∀ (k:Nat) (own:aB bP) (e:bP) (p:aC aJ) (cap:Nat) (w:World),e.p.length<=k->SM own->e.p≠[]->e.bm.size<=1048576->e.opq=aH->own.length+e.bm.size+2<=10000->bI w p own ->
  ay aP 61 #[ah p own.length cap,ar #[ai e.bm, .int .i64 e.bE, ai e.text, aq e.opq]] w (iq (cZ own e) w):=by
 intro k;induction k with
 | zero=>intro own e p cap w hk _ hne;exact absurd (bX (by omega)) hne
 | succ k ih=>
  rintro own ⟨ep,ek,et,eo⟩ p cap w hk hS hne iL ho hlen hL;simp only at iL ho hlen;subst ho;have YO:ep.data.toList≠[]:=hne;have Gf:ep.size=ep.data.toList.length:=rfl;have Lc:ep.data.toList.length<=k+1:=hk;have key:∀ (l1:aB bP) (bb:Bool),SM l1->l1.length<=10000->bb = !jG own (bU ep)->(bb=true->∀ W (d:aA),d.data.toList=(kd ep).1->Below w w W->ay aP 61 #[ah p own.length cap,ar #[ai d,.int .i64 2,ai ⟨#[]⟩,aq aH]] W (iq l1 W))->(bb=aH->l1=own)->cZ own ⟨ep,ek,et,aH⟩=iW l1 ⟨ep,ek,et,aH⟩->ay aP 61 #[ah p own.length cap,ar #[ai ep,.int .i64 ek,ai et,aq aH]] w (iq (cZ own ⟨ep,ek,et,aH⟩) w):=fun l1 bb h1 h2 h3 h4 h5 h6=>by
   rw[h6];refine TJ own l1 _ l1.length rfl ep et ek p own.length cap w _ _ _ _ _ _ _ _ _ _ bb _ (nG l1 ⟨ep,ek,et,aH⟩).opq hL iL (fun W d hd hB=>ij own d p cap W (hL.bB hB) (by omega) _ _ (by rw[hd]) (by rw[hd])) h4 (fun e=>by rw[h5 e];exact⟨rfl,rfl⟩) (fun W p1 c1 lj=>ij l1 ep p1 c1 W lj (by omega) _ _ rfl rfl) (fun W p1 c1 lj=>?_) (fun d hd=>?_) rfl ?_
   ·have:=qU l1 (nG l1 ⟨ep,ek,et,aH⟩) p1 c1 W lj h1.small (by rw[ER];exact iL) h2
    rw[FC h1.anF,ER,Rz,RB]at this;exact this
   ·rw[h3,bq,hd,show(kd ep).1=bU ep from rfl]
    by_cases h0:bU ep.data.toList=[]
    ·rw[h0,kL];rfl
    ·unfold jG
     cases bW own (bU ep)<;>simp[h0,bne]
   ·unfold nG
    show _=((bW l1 ep).isSome && _ && _)
    rw[show bP.p ⟨ep,ek,et,aH⟩=ep.data.toList from rfl];cases bW l1 ep.data.toList<;>simp
  by_cases hd:jG own (bU ep)=true
  ·exact key own aH hS (by omega) (by rw[hd];rfl) nofun (fun _=>rfl) (pM hd)
  ·have h0:¬ bU ep.data.toList=[]:=Rh (e:=⟨ep,ek,et,aH⟩) hd
   have Ep:(bU ep).length<ep.data.toList.length:=eY YO;refine key (cZ own (pD (fU (bU ep)) 2)) true (SM.have _ (aV _) hS (by rw[mD];exact h0) (by rw[Dk,CF];omega)) ?_ (by simpa using hd) (fun _ W d DV hB=>?_) nofun (rC hd)
   ·have:=IC (e:=pD (fU (bU ep)) 2) hS.anF
    rw[Dk,CF]at this;omega
   ·have sY:d.data.toList=bU ep.data.toList:=DV
    have hds:d.size=(bU ep).length:=by rw[<- sY];rfl
    have:=ih own (pD d 2) p cap W (by show d.data.toList.length<=k;rw[sY];omega) hS (by show d.data.toList≠[];rw[sY];exact h0) (by show d.size<=_;omega) rfl (by show _+d.size+2<=_;omega) (hL.bB hB);rw[<- sY,<- LG d 2];exact this
theorem Mq(own B:aB bP)(q:aA)(p:aC aJ)(cap:Nat)(pb:aC aJ)(n nb cb:Nat)(w:World)(hn:n=own.length)(Qv:nb=B.length)(hL:bI w p own)(yB:bI w pb B)(hS:SM own)(Vl:B.length<=10000)(hq:q.data.toList≠[])(hqs:q.size<=1048576)(hlen:own.length+q.size+2<=10000):ay aP 63 #[ah p n cap,ah pb nb cb,ai q] w (iq (ec own B q) w):=by
 have hc:=FW own q.data.toList;have hSc:=hS.cut q.data.toList;have IX:=uL own q p cap w hL hS.small (by unfold maxLen;omega) (by omega);rw[Wb,<- hn]at IX;have gI:=fun W (hB:Below w.heap.size w W)=>ij B q pb cb W (yB.bB hB) (by omega) _ _ rfl rfl
 rw[<- Qv]at gI;have A0:=fun W p1 c1 (h:bI W p1 (mH own q.data.toList))=>zC (mH own q.data.toList) q p1 c1 W h (by omega) (by omega)
 rw[Mi hSc.anF (fun e he=>(hSc.each e he).1)]at A0;have Ao:=fun W p1 c1 (h:bI W p1 (mH own q.data.toList))=>TI _ (mH own q.data.toList) (pD q 4) p1 c1 W (aV _) hSc hq hqs rfl (by show _+q.size+2<=_;omega) h
 simp only[pD]at Ao;have HD:ax (ec own B q=if(bW B q).isSome && !fM (mH own q) q.data.toList then cZ (mH own q) ⟨q,4,⟨#[]⟩,aH⟩else mH own q):=rfl;generalize ec own B q=R at HD ⊢;generalize cZ (mH own q) ⟨q,4,⟨#[]⟩,aH⟩=l2 at Ao HD;generalize fM (mH own q) q.data.toList=hh at A0 HD;generalize mH own q.data.toList=l1 at *;generalize (bW B q).getD cR=x at gI;generalize (bW B q).isSome=bb at gI HD;obtain⟨xp,xk,xt,xo⟩:=x;obtain⟨n1,Ge⟩:=ee l1.length
 have ZA:ax (n1=l1.length):=Ge;rw[<- Ge]at A0 Ao;clear hc hSc hn Qv hL yB hS hlen Ge;go_enter Tryz.func63,Tryz.ntmps63;go_wp2_with (first
  | (go_at_call 106;refine IX.mono ?_;clear IX;rintro rr w1 ⟨⟨v1,rfl,hR⟩,hB⟩;obtain⟨p1,c1,rfl,lj,_⟩:=qm ZA.out hR;have H1:ax (Rows w1 w (ah p1 n1 c1) l1/\bI w1 p1 l1):=⟨hR,lj⟩;clear hR lj)
  | (go_at_call 31;refine(gI _ hB).mono ?_;clear gI;rintro rr w2 ⟨rfl,hN⟩;have HB:ax (Below w1 w1 (w2.alloc (.cells #[ai xp,.int .i64 xk,ai xt,aq xo] 88))):=hN.alloc hN.size _;clear hN)
  | (go_at_call 99;refine(A0 _ p1 c1 (H1.2.bB HB.out)).mono ?_;clear A0;rintro rr w3 ⟨rfl,hN⟩;replace HB:ax (Below w1 w1 w3):=Below.bK HB.out hN;clear hN)
  | (go_at_call 61;refine(Ao _ p1 c1 (H1.2.bB HB.out)).mono ?_;clear Ao;rintro rr w4 ⟨⟨v4,rfl,uW⟩,hN⟩;have H4:ax (iq l2 w (.returned v4) w4):=⟨⟨v4,rfl,uW.mono (bc hB.size HB.size)⟩,Below.bK hB (Below.bK HB.out hN)⟩;clear hN uW))
 all_goals
  go_ret;rw[HD.out];first
   | (rw[aY (by simp[*])];exact H4.out)
   | (rw[aW (by simp[*])];exact⟨⟨_,rfl,H1.1.below HB.out⟩,Below.bK hB HB.out⟩)
